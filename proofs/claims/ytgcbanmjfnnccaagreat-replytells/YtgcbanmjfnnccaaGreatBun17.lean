/-
  Parts of this proof, one behind the other: Com3, Com4, Com5, BokT1, Reg2, RfP1.
-/
import Derived.Test.YtgcbanmjfnnccaaGreatBun7
import Derived.Test.YtgcbanmjfnnccaaGreatBun3
import Derived.Test.YtgcbanmjfnnccaaGreatBun8
import Derived.Test.YtgcbanmjfnnccaaGreatBun16
import Derived.Deep.RegionHeld3
import Derived.Test.YtgcbanmjfnnccaaGreatBun11
import Derived.Test.YtgcbanmjfnnccaaGreatBun15

/-
  The contracts of package command's tests (isOp, isKey, areNumbers, Right), of Class, and of the reference's.
-/
namespace Go.Proofs.YtgcbanmjfnnccaaGreat
open Go.RowKit
set_option linter.unusedVariables false
set_option maxRecDepth 100000
set_option linter.unusedSimpArgs false

theorem str_at10 (s : ByteArray) (n : Nat) (h : n < s.size) : s[n] = s.data.toList.getD n 0 := by
  rw [List.getD_eq_getElem?_getD, List.getElem?_eq_getElem (by simpa using h)]
  rfl
theorem u8_byte (v : Int) : IntKind.u8.wrap v = ((byteOf v 0).toNat : Int) := by
  rw [byteOf_val, IntKind.wrap_u8]
  simp
abbrev IsOp (op : Int) : Prop := 1 ≤ op ∧ op ≤ 13
abbrev NumsOk (num ver : Int) : Prop := (-1000000000000 ≤ num ∧ num ≤ 1000000000000) ∧ (0 ≤ ver ∧ ver ≤ 1000000000000)
theorem ret_bool {a b : Bool} (h : a = b) : Ending.returned (.bool a) = .returned (.bool b) := by rw [h]

theorem command_isOp (op : Int) (w : World) : Calls Tryz.prog 63 #[.int .i64 op] w fun e w' => e = .returned (.bool (decide (IsOp op))) ∧ w = w' := by
  by_cases h1 : 1 ≤ op
  · by_cases h2 : op ≤ 13
    · rw [show decide (IsOp op) = true from decide_eq_true ⟨h1, h2⟩]
      have d1 : decide (1 ≤ op) = true := decide_eq_true h1
      have d2 : decide (op ≤ 13) = true := decide_eq_true h2
      clear h1 h2
      go_enter Tryz.func63, Tryz.ntmps63
      go_wp2
      go_ret
      exact ⟨rfl, rfl⟩
    · rw [show decide (IsOp op) = false from decide_eq_false (fun h => h2 h.2)]
      have d1 : decide (1 ≤ op) = true := decide_eq_true h1
      have d2 : decide (op ≤ 13) = false := decide_eq_false h2
      clear h1 h2
      go_enter Tryz.func63, Tryz.ntmps63
      go_wp2
      go_ret
      exact ⟨rfl, rfl⟩
  · rw [show decide (IsOp op) = false from decide_eq_false (fun h => h1 h.1)]
    have d1 : decide (1 ≤ op) = false := decide_eq_false h1
    clear h1
    go_enter Tryz.func63, Tryz.ntmps63
    go_wp2
    go_ret
    exact ⟨rfl, rfl⟩

theorem command_areNumbers (num ver : Int) (w : World) : Calls Tryz.prog 65 #[.int .i64 num, .int .i64 ver] w fun e w' => e = .returned (.bool (decide (NumsOk num ver))) ∧ w = w' := by
  obtain ⟨x1, y1⟩ : ∃ x, decide (-1000000000000 ≤ num) = x := ⟨_, rfl⟩
  obtain ⟨x2, y2⟩ : ∃ x, decide (num ≤ 1000000000000) = x := ⟨_, rfl⟩
  obtain ⟨x3, y3⟩ : ∃ x, decide (0 ≤ ver) = x := ⟨_, rfl⟩
  obtain ⟨x4, y4⟩ : ∃ x, decide (ver ≤ 1000000000000) = x := ⟨_, rfl⟩
  have e : decide (NumsOk num ver) = (x1 && x2 && x3 && x4) := by
    subst y1 y2 y3 y4
    simp [NumsOk, Bool.and_assoc]
  rw [e]
  clear e
  go_enter Tryz.func65, Tryz.ntmps65
  cases x1 <;> (try cases x2) <;> (try cases x3) <;> (try cases x4) <;>
  · go_wp2
    go_ret
    exact ⟨rfl, rfl⟩

theorem keyOk_none {op : Int} {n : Nat} (h : op = 12 ∨ op = 13) : (keyOk op n ∧ n ≤ 60) ↔ n = 0 := by
  unfold keyOk
  rw [if_neg (by omega), if_pos h]
  omega
theorem keyOk_scan {n : Nat} : (keyOk 11 n ∧ n ≤ 60) ↔ (n : Int) ≤ 60 := by
  unfold keyOk
  rw [if_pos rfl]
  simp
  omega
theorem keyOk_other {op : Int} {n : Nat} (h1 : ¬ op = 11) (h : ¬ (op = 12 ∨ op = 13)) : (keyOk op n ∧ n ≤ 60) ↔ (1 ≤ n ∧ n ≤ 60) := by
  unfold keyOk
  rw [if_neg h1, if_neg h]
theorem empty_list : (⟨#[]⟩ : ByteArray).toList.isEmpty = true := by rw [ByteArray.toList_eq]; rfl
theorem str_empty_dec (k : ByteArray) : decide (k = ByteArray.empty) = decide (k.size = 0) := decide_eq_decide.2 ⟨fun h => by rw [h]; rfl, fun h => str_none k h⟩
theorem command_isKey (op : Int) (k : ByteArray) (w : World) (hk : k.size ≤ maxLen) : Calls Tryz.prog 84 #[.int .i64 op, .string k] w fun e w' => e = .returned (.bool (decide (keyOk op k.size ∧ k.size ≤ 60))) ∧ w = w' := by
  have he : k.toList.isEmpty = decide (k.size = 0) := by
    by_cases h : k.size = 0
    · rw [decide_eq_true h, str_none k h]; exact empty_list
    · rw [decide_eq_false h]
      exact str_full k (fun e => h (by rw [e]; rfl))
  by_cases h12 : op = 12
  · subst h12
    have e : decide (keyOk 12 k.size ∧ k.size ≤ 60) = decide (k.size = 0) := decide_eq_decide.2 (keyOk_none (by decide))
    rw [e]
    go_enter Tryz.func84, Tryz.ntmps84
    go_wp2
    go_ret
    exact ⟨ret_bool (str_empty_dec k), rfl⟩
  by_cases h13 : op = 13
  · subst h13
    have e : decide (keyOk 13 k.size ∧ k.size ≤ 60) = decide (k.size = 0) := decide_eq_decide.2 (keyOk_none (by decide))
    rw [e]
    go_enter Tryz.func84, Tryz.ntmps84
    go_wp2
    go_ret
    exact ⟨ret_bool (str_empty_dec k), rfl⟩
  by_cases h11 : op = 11
  · subst h11
    have e : decide (keyOk 11 k.size ∧ k.size ≤ 60) = decide ((k.size : Int) ≤ 60) := decide_eq_decide.2 keyOk_scan
    rw [e]
    go_enter Tryz.func84, Tryz.ntmps84
    go_wp2
    go_ret
    exact ⟨rfl, rfl⟩
  have b12 : (op == 12) = false := by simpa using h12
  have b13 : (op == 13) = false := by simpa using h13
  have b11 : (op == 11) = false := by simpa using h11
  by_cases h0 : k.size = 0
  · have e : decide (keyOk op k.size ∧ k.size ≤ 60) = false := decide_eq_false (by rw [keyOk_other h11 (by omega)]; omega)
    rw [e]
    rw [decide_eq_true h0] at he
    clear e h11 h12 h13
    go_enter Tryz.func84, Tryz.ntmps84
    go_wp2
    go_ret
    exact ⟨rfl, rfl⟩
  · have e : decide (keyOk op k.size ∧ k.size ≤ 60) = decide ((k.size : Int) ≤ 60) := decide_eq_decide.2 (by rw [keyOk_other h11 (by omega)]; omega)
    rw [e]
    rw [decide_eq_false h0] at he
    clear e h11 h12 h13
    go_enter Tryz.func84, Tryz.ntmps84
    go_wp2
    go_ret
    exact ⟨rfl, rfl⟩

theorem classN_in (op : Int) (h : IsOp op) : op = 1 ∨ op = 2 ∨ op = 3 ∨ op = 4 ∨ op = 5 ∨ op = 6 ∨ op = 7 ∨ op = 8 ∨ op = 9 ∨ op = 10 ∨ op = 11 ∨ op = 12 ∨ op = 13 := by unfold IsOp at h; omega
theorem classN_out (op : Int) (h : ¬ IsOp op) : classN op = 0 := by
  unfold classN
  unfold IsOp at h
  rw [if_neg (by omega), if_neg (by omega), if_neg (by omega)]
theorem classN_pos (op : Int) : decide (0 < classN op) = decide (IsOp op) := by
  refine decide_eq_decide.2 ?_
  unfold classN IsOp
  split
  · omega
  · split
    · omega
    · split <;> omega

theorem command_class (op : Int) (w : World) : Calls Tryz.prog 16 #[.int .i64 op] w fun e w' => e = .returned (.int .i64 (classN op)) ∧ w = w' := by
  by_cases h : IsOp op
  · go_enter Tryz.func16, Tryz.ntmps16
    rcases classN_in op h with rfl | rfl | rfl | rfl | rfl | rfl | rfl | rfl | rfl | rfl | rfl | rfl | rfl <;>
    · go_wp2
      go_ret
      exact ⟨rfl, rfl⟩
  · rw [classN_out op h]
    unfold IsOp at h
    have b1 : (op == 1) = false := by simp; omega
    have b2 : (op == 2) = false := by simp; omega
    have b3 : (op == 3) = false := by simp; omega
    have b4 : (op == 4) = false := by simp; omega
    have b5 : (op == 5) = false := by simp; omega
    have b6 : (op == 6) = false := by simp; omega
    have b7 : (op == 7) = false := by simp; omega
    have b8 : (op == 8) = false := by simp; omega
    have b9 : (op == 9) = false := by simp; omega
    have b10 : (op == 10) = false := by simp; omega
    have b11 : (op == 11) = false := by simp; omega
    have b12 : (op == 12) = false := by simp; omega
    have b13 : (op == 13) = false := by simp; omega
    clear h
    go_enter Tryz.func16, Tryz.ntmps16
    go_wp2
    go_ret
    exact ⟨rfl, rfl⟩
theorem ref_number (v : Int) (w : World) : Calls Tryz.prog 25 #[.int .i64 v] w fun e w' => e = .returned (.bool (decide (-1000000000000 ≤ v ∧ v ≤ 1000000000000))) ∧ w = w' := by
  obtain ⟨x1, y1⟩ : ∃ x, decide (-1000000000000 ≤ v) = x := ⟨_, rfl⟩
  obtain ⟨x2, y2⟩ : ∃ x, decide (v ≤ 1000000000000) = x := ⟨_, rfl⟩
  have e : decide (-1000000000000 ≤ v ∧ v ≤ 1000000000000) = (x1 && x2) := by
    subst y1 y2
    simp
  rw [e]
  clear e
  go_enter Tryz.func25, Tryz.ntmps25
  cases x1 <;> (try cases x2) <;>
  · go_wp2
    go_ret
    exact ⟨rfl, rfl⟩

end Go.Proofs.YtgcbanmjfnnccaaGreat

/-
  The contracts of package command's Right.
-/
namespace Go.Proofs.YtgcbanmjfnnccaaGreat
open Go.RowKit
set_option linter.unusedVariables false
set_option maxRecDepth 100000
set_option linter.unusedSimpArgs false

theorem bel_new {w w' : World} {o : Obj} (h : Below (w.alloc o).heap.size (w.alloc o) w') : Below w.heap.size w w' := bel_chain8 ((Below.refl _ _).alloc (Nat.le_refl _) _) h
theorem ret_sb10 {a b : ByteArray} {c d : Bool} (h : a = b) (h' : c = d) : Ending.returned (.tuple #[.string a, .bool c]) = .returned (.tuple #[.string b, .bool d]) := by rw [h, h']
/-- A command that lies in a variable. -/
def CmdIs (w : World) (b : Nat) (c : Cmd) : Prop := RowIs w b 47 [.int .i64 c.op, .string c.key, .string c.value, .int .i64 c.num, .int .i64 c.ver]
theorem CmdIs.new (w : World) (c : Cmd) : CmdIs (w.alloc (.cells #[.int .i64 c.op, .string c.key, .string c.value, .int .i64 c.num, .int .i64 c.ver] 47)) w.heap.size c := RowIs.new w _ _
theorem CmdIs.lt {w : World} {b : Nat} {c : Cmd} (h : CmdIs w b c) : b < w.heap.size := RowIs.lt h
theorem CmdIs.below {w w' : World} {b : Nat} {c : Cmd} (h : CmdIs w b c) (hb : Below w.heap.size w w') : CmdIs w' b c := RowIs.below h hb h.lt
theorem CmdIs.alloc {w : World} {b : Nat} {c : Cmd} (h : CmdIs w b c) (o : Obj) : CmdIs (w.alloc o) b c := RowIs.alloc h o
theorem CmdIs.cells {w : World} {b : Nat} {c : Cmd} (h : CmdIs w b c) : w.cell? ⟨b, 0, none⟩ = some (.int .i64 c.op) ∧ w.cell? ⟨b, 1, none⟩ = some (.string c.key) ∧ w.cell? ⟨b, 2, none⟩ = some (.string c.value) ∧ w.cell? ⟨b, 3, none⟩ = some (.int .i64 c.num) ∧ w.cell? ⟨b, 4, none⟩ = some (.int .i64 c.ver) :=
  ⟨RowIs.cellAt h rfl, RowIs.cellAt h rfl, RowIs.cellAt h rfl, RowIs.cellAt h rfl, RowIs.cellAt h rfl⟩

theorem Cmd.right_parts (c : Cmd) : c.right = (decide (IsOp c.op) && decide (keyOk c.op c.key.size ∧ c.key.size ≤ 60) && decide ((c.value.size : Int) ≤ 500) && decide (NumsOk c.num c.ver)) := by
  unfold Cmd.right
  rw [← Bool.decide_and, ← Bool.decide_and, ← Bool.decide_and]
  refine decide_eq_decide.2 ⟨fun ⟨h1, h2, h3, h4, h5, h6⟩ => ⟨⟨⟨h1, h2, h3⟩, by omega⟩, h5, h6⟩, fun ⟨⟨⟨h1, h2, h3⟩, h4⟩, h5, h6⟩ => ⟨h1, h2, h3, by omega, h5, h6⟩⟩

theorem command_right (c : Cmd) (w : World) (hk : c.key.size ≤ maxLen) : Calls Tryz.prog 61 #[c.v] w fun e w' => e = .returned (.bool c.right) ∧ Below w.heap.size w w' := by
  rw [Cmd.right_parts]
  obtain ⟨op, key, value, num, ver⟩ := c
  rw [show (⟨op, key, value, num, ver⟩ : Cmd).v = .agg #[.int .i64 op, .string key, .string value, .int .i64 num, .int .i64 ver] from rfl]
  simp only at hk ⊢
  have P1 := fun w => command_isOp op w
  have P2 := fun w => command_isKey op key w hk
  have P3 := fun w => command_areNumbers num ver w
  obtain ⟨x1, y1⟩ : ∃ x, decide (IsOp op) = x := ⟨_, rfl⟩
  obtain ⟨x2, y2⟩ : ∃ x, decide (keyOk op key.size ∧ key.size ≤ 60) = x := ⟨_, rfl⟩
  obtain ⟨x3, y3⟩ : ∃ x, decide ((value.size : Int) ≤ 500) = x := ⟨_, rfl⟩
  obtain ⟨x4, y4⟩ : ∃ x, decide (NumsOk num ver) = x := ⟨_, rfl⟩
  rw [y1] at P1 ⊢
  rw [y2] at P2 ⊢
  rw [y4] at P3 ⊢
  rw [y3]
  clear y1 y2 y4 hk
  have hbel : ∀ o, Below w.heap.size w (w.alloc o) := fun o => (Below.refl _ _).alloc (Nat.le_refl _) _
  go_enter Tryz.func61, Tryz.ntmps61
  go_wp2_with fail
  with_reducible refine (P1 _).mono ?_
  rintro e w' ⟨rfl, rfl⟩
  cases x1
  · go_wp2
    go_ret
    exact ⟨rfl, hbel _⟩
  go_wp2_with fail
  with_reducible refine (P2 _).mono ?_
  rintro e w' ⟨rfl, rfl⟩
  cases x2
  · go_wp2
    go_ret
    exact ⟨rfl, hbel _⟩
  cases x3
  · go_wp2
    go_ret
    exact ⟨rfl, hbel _⟩
  go_wp2_with fail
  with_reducible refine (P3 _).mono ?_
  rintro e w' ⟨rfl, rfl⟩
  go_wp2
  go_ret
  exact ⟨by simp, hbel _⟩

end Go.Proofs.YtgcbanmjfnnccaaGreat

/-
  The contracts of package command's putNumbers, putText and Put.
-/
namespace Go.Proofs.YtgcbanmjfnnccaaGreat
open Go.RowKit
set_option linter.unusedVariables false
set_option maxRecDepth 100000
set_option linter.unusedSimpArgs false

def numsS (num ver : Int) : ByteArray := putBigS (num + 1000000000000) 8 ++ putBigS ver 8
def textS (t : ByteArray) (n : Int) : ByteArray := putBigS (t.size : Int) n ++ t
theorem str_plus (a b : List UInt8) : str a ++ str b = str (a ++ b) := by
  apply ByteArray.ext
  simp [str]
theorem str_plus' (a : List UInt8) (b : ByteArray) : str a ++ b = str (a ++ b.data.toList) := by
  rw [← str_plus, str_back]
theorem putBigSz (v : Int) (n : Nat) (h1 : 1 ≤ n) (h8 : n ≤ 8) : (putBigS v (n : Int)).size = n := by rw [putBigS, str_size, putBig_len _ _ (by omega), Int.toNat_natCast]
theorem putBigS1_size (v : Int) : (putBigS v 1).size = 1 := putBigSz v 1 (by decide) (by decide)
theorem putBigS2_size (v : Int) : (putBigS v 2).size = 2 := putBigSz v 2 (by decide) (by decide)
theorem putBigS8_size (v : Int) : (putBigS v 8).size = 8 := putBigSz v 8 (by decide) (by decide)
theorem numsS_size (num ver : Int) : (numsS num ver).size = 16 := by unfold numsS; rw [ByteArray.size_append, putBigS8_size, putBigS8_size]
theorem textS1_size (t : ByteArray) : (textS t 1).size = 1 + t.size := by unfold textS; rw [ByteArray.size_append, putBigS1_size]
theorem textS2_size (t : ByteArray) : (textS t 2).size = 2 + t.size := by unfold textS; rw [ByteArray.size_append, putBigS2_size]
theorem putBig1 (v : Int) : putBig v 1 = [byteOf v 0] := rfl
theorem Cmd.put_is {c : Cmd} (h : c.Right) : putBigS c.op 1 ++ numsS c.num c.ver ++ textS c.key 1 ++ c.value = c.put := by
  rw [Cmd.put_yes h]
  unfold numsS textS putBigS Cmd.bytes
  rw [putBig1, putBig1]
  apply ByteArray.ext
  simp [str]

theorem command_putNumbers (num ver : Int) (w : World) (h : NumsOk num ver) : Calls Tryz.prog 22 #[.int .i64 num, .int .i64 ver] w fun e w' => e = .returned (.string (numsS num ver)) ∧ Below w.heap.size w w' := by
  obtain ⟨⟨h1, h2⟩, h3, h4⟩ := h
  have P1 : Hid _ := fun w => octet_putBig (num + 1000000000000) 8 w (by omega) (by omega)
  have P2 : Hid _ := fun w => octet_putBig ver 8 w (by omega) (by omega)
  have HS : Hid (putBigS (num + 1000000000000) 8 ++ putBigS ver 8 = numsS num ver) := rfl
  have z1 := putBigS8_size (num + 1000000000000)
  have z2 := putBigS8_size ver
  generalize putBigS (num + 1000000000000) 8 = H1 at *
  generalize putBigS ver 8 = H2 at *
  go_enter Tryz.func22, Tryz.ntmps22
  go_wp2_with fail
  with_reducible refine (P1.out _).mono ?_
  rintro e w1 ⟨rfl, b1⟩
  go_wp2_with fail
  with_reducible refine (P2.out _).mono ?_
  rintro e w2 ⟨rfl, b2⟩
  go_wp2
  go_ret
  exact ⟨ret_str HS.out, bel_chain8 b1 b2⟩
theorem command_putText (t : ByteArray) (n : Int) (w : World) (ht : t.size ≤ 1000000) (hn : n = 1 ∨ n = 2) : Calls Tryz.prog 23 #[.string t, .int .i64 n] w fun e w' => e = .returned (.string (textS t n)) ∧ Below w.heap.size w w' := by
  have P1 : Hid _ := fun w => octet_putBig (t.size : Int) n w (by omega) (by omega)
  have HS : Hid (putBigS (t.size : Int) n ++ t = textS t n) := rfl
  have z1 : (putBigS (t.size : Int) n).size ≤ 8 := by
    rcases hn with rfl | rfl
    · rw [putBigS1_size]; decide
    · rw [putBigS2_size]; decide
  generalize putBigS (t.size : Int) n = H1 at *
  clear hn
  go_enter Tryz.func23, Tryz.ntmps23
  go_wp2_with fail
  with_reducible refine (P1.out _).mono ?_
  rintro e w1 ⟨rfl, b1⟩
  go_wp2
  go_ret
  exact ⟨ret_str HS.out, b1⟩

set_option maxHeartbeats 4000000 in
theorem command_put (c : Cmd) (w : World) (hk : c.key.size ≤ maxLen) : Calls Tryz.prog 14 #[c.v] w fun e w' => e = .returned (.tuple #[.string c.put, .bool c.right]) ∧ Below w.heap.size w w' := by
  have PR := fun w => command_right c w hk
  by_cases hr : c.Right
  · have hrt : c.right = true := decide_eq_true hr
    rw [hrt] at PR ⊢
    have HS : Hid (putBigS c.op 1 ++ numsS c.num c.ver ++ textS c.key 1 ++ c.value = c.put) := Cmd.put_is hr
    obtain ⟨⟨h1, h2⟩, h3, h4, h5, h6, h7⟩ := hr
    have P1 : Hid _ := fun w => octet_putBig c.op 1 w (by omega) (by omega)
    have P2 : Hid _ := fun w => command_putNumbers c.num c.ver w ⟨h6, h7⟩
    have P3 : Hid _ := fun w => command_putText c.key 1 w (by omega) (Or.inl rfl)
    have z1 := putBigS1_size c.op
    have z2 := numsS_size c.num c.ver
    have z3 := textS1_size c.key
    have hrow := fun w => CmdIs.new w c
    obtain ⟨op, key, value, num, ver⟩ := c
    simp only [Cmd.v] at *
    generalize putBigS op 1 = H1 at *
    generalize numsS num ver = H2 at *
    generalize textS key 1 = H3 at *
    generalize (Cmd.put ⟨op, key, value, num, ver⟩) = S at *
    have u1 : IntKind.u64.wrap op = op := by rw [IntKind.wrap_u64]; omega
    have y1 : (H1 ++ H2).size = H1.size + H2.size := ByteArray.size_append
    have y2 : (H1 ++ H2 ++ H3).size = H1.size + H2.size + H3.size := by rw [ByteArray.size_append, y1]
    have n1 : ¬ (9223372036854775807 < H1.size + H2.size) := by omega
    obtain ⟨A1, g1⟩ : ∃ A, H1 ++ H2 = A := ⟨_, rfl⟩
    rw [g1] at y1 y2 HS
    have n2 : ¬ (9223372036854775807 < A1.size + H3.size) := by omega
    obtain ⟨A2, g2⟩ : ∃ A, A1 ++ H3 = A := ⟨_, rfl⟩
    rw [g2] at y2 HS
    have n3 : ¬ (9223372036854775807 < A2.size + value.size) := by omega
    clear h1 h2 h3 h4 h5 h6 h7 z1 z2 z3 y1 y2 hk hrt
    go_enter Tryz.func14, Tryz.ntmps14
    go_wp2_with fail
    with_reducible refine (PR _).mono ?_
    rintro e w1 ⟨rfl, b1⟩
    obtain ⟨c0, c1, c2, c3, c4⟩ := ((hrow w).below b1).cells
    replace b1 := bel_new b1
    have b : Below w1.heap.size w1 w1.drew := (Below.refl _ _).drew
    go_wp2_with fail
    go_region_held3 (fun w' => w'.cell? ⟨w.heap.size, 0, none⟩ = some (.int .i64 op) ∧ w'.cell? ⟨w.heap.size, 3, none⟩ = some (.int .i64 num) ∧ w'.cell? ⟨w.heap.size, 4, none⟩ = some (.int .i64 ver) ∧ w'.cell? ⟨w.heap.size, 1, none⟩ = some (.string key) ∧ w'.cell? ⟨w.heap.size, 2, none⟩ = some (.string value)) (exact ⟨cell_belowB b c0, cell_belowB b c3, cell_belowB b c4, cell_belowB b c1, cell_belowB b c2⟩) (first | (go_at_call 21; (with_reducible refine (P1.out _).mono ?_); rintro e w5 ⟨rfl, b5⟩; replace b := bel_chain8 b b5; clear b5) | (go_at_call 22; (with_reducible refine (P2.out _).mono ?_); rintro e w5 ⟨rfl, b5⟩; replace b := bel_chain8 b b5; clear b5) | (go_at_call 23; (with_reducible refine (P3.out _).mono ?_); rintro e w5 ⟨rfl, b5⟩; replace b := bel_chain8 b b5; clear b5))
    all_goals
      go_wp2
      go_ret2
      exact ⟨ret_sb10 HS.out rfl, bel_chain8 b1 b⟩
  · rw [Cmd.put_no hr]
    have hrt : c.right = false := decide_eq_false hr
    rw [hrt] at PR ⊢
    obtain ⟨op, key, value, num, ver⟩ := c
    simp only [Cmd.v] at *
    clear hr hrt hk
    go_enter Tryz.func14, Tryz.ntmps14
    go_wp2_with fail
    with_reducible refine (PR _).mono ?_
    rintro e w1 ⟨rfl, b1⟩
    go_wp2
    go_ret2
    exact ⟨rfl, bel_new b1⟩

end Go.Proofs.YtgcbanmjfnnccaaGreat

/-
  The book's lists of texts: SameTexts, name, markTexts.
-/
namespace Go.Proofs.YtgcbanmjfnnccaaGreat
open Go.RowKit
set_option linter.unusedVariables false
set_option maxRecDepth 100000
set_option linter.unusedSimpArgs false

theorem seenT_at {w : World} {v : Value} {l : List ByteArray} (h : Seen w v (cellsT l)) (hl : 0 < l.length) : ∃ g cap, v = .slice (some ⟨g, 0, none⟩) l.length cap ∧ ∀ j, j < l.length → w.cell? ⟨g, j, none⟩ = some (.string (l.getD j ⟨#[]⟩)) := by
  obtain ⟨g, cap, rfl, hc⟩ := h.full (by rw [cellsT_len]; exact hl)
  exact ⟨g, cap, by rw [cellsT_len], fun j hj => hc j _ (cellsT_at l j hj)⟩

set_option maxHeartbeats 1000000 in
/-- Two lists that hold the same are alike. -/
theorem book_sameTexts (l : List ByteArray) (va vb : Value) (w : World) (ha : Seen w va (cellsT l)) (hb : Seen w vb (cellsT l)) (hl : l.length ≤ 4611686018427387904) :
    Calls Tryz.prog 32 #[va, vb] w fun e w' => e = .returned (.bool true) ∧ Below w.heap.size w w' := by
  by_cases h0 : 0 < l.length
  · obtain ⟨g, cap, rfl, hg⟩ := seenT_at ha h0
    obtain ⟨g', cap', rfl, hg'⟩ := seenT_at hb h0
    have G : Hid _ := hg
    have G' : Hid _ := hg'
    clear hg hg' ha hb
    generalize hn : l.length = n at *
    go_enter Tryz.func32, Tryz.ntmps32
    go_wp2_with fail
    go_loopw [5] (fun i wr => ∃ k : Nat, k ≤ n ∧ i = .int .i64 k ∧ Below w.heap.size w wr) (fun i _ => n - (intOf i).toNat)
    case atStart => exact ⟨0, Nat.zero_le _, rfl, Below.refl _ _⟩
    case round =>
      obtain ⟨k, hk, rfl, hbel⟩ := hrel
      by_cases hlt : k < n
      · have c1 := G.out k hlt
        have c2 := G'.out k hlt
        have b1 : g < w.heap.size := World.block_lt_of_cell? w ⟨g, k, none⟩ c1
        have b2 : g' < w.heap.size := World.block_lt_of_cell? w ⟨g', k, none⟩ c2
        replace c1 := (hbel.cell (p := ⟨g, k, none⟩) b1).trans c1
        replace c2 := (hbel.cell (p := ⟨g', k, none⟩) b2).trans c2
        have d1 : decide ((k : Int) < (n : Int)) = true := by simp; omega
        have d2 : (k : Int) < (n : Int) := by omega
        generalize l.getD k ⟨#[]⟩ = X at *
        have hself := str_beq_self X
        go_wp2_with fail
        go_region
        go_wp2
        go_roundw
        case rel => exact ⟨k + 1, by omega, by go_num, hbel.drew⟩
        case measure => simp [intOf]; omega
      · have d1 : decide ((k : Int) < (n : Int)) = false := by simp; omega
        go_wp2
        go_ret
        exact ⟨rfl, hbel⟩
  · have hn : l = [] := List.eq_nil_of_length_eq_zero (by omega)
    subst hn
    obtain ⟨ao, cap, rfl⟩ := ha.form
    obtain ⟨ao', cap', rfl⟩ := hb.form
    rw [show (cellsT []).length = 0 from rfl]
    clear ha hb
    go_enter Tryz.func32, Tryz.ntmps32
    go_wp2_with fail
    go_loopw [5] (fun i wr => i = .int .i64 0 ∧ wr = w) (fun i _ => 0)
    case atStart => exact ⟨rfl, rfl⟩
    case round =>
      obtain ⟨rfl, rfl⟩ := hrel
      go_wp2
      go_ret
      exact ⟨rfl, Below.refl _ _⟩

/-- The name of a mark. -/
def nameL (i k : Nat) : List UInt8 := [109, UInt8.ofNat (65 + i % 26), UInt8.ofNat (65 + i / 26 % 26), UInt8.ofNat (48 + k % 10), UInt8.ofNat (48 + k / 10 % 10), UInt8.ofNat (48 + k / 100 % 10)]
def nameS (i k : Nat) : ByteArray := str (nameL i k)
theorem byte_of (a m : Nat) (h : a + m ≤ 256) (x : Nat) (hm : 0 < m) : ((UInt8.ofNat (a + x % m)).toNat : Int) = (a : Int) + (x : Int) % (m : Int) := by
  have := Nat.mod_lt x hm
  rw [UInt8.toNat_ofNat']
  omega
set_option maxHeartbeats 400000 in
theorem book_name (i k : Nat) (w : World) (hi : i ≤ 100000) (hk : k ≤ 2000000000) :
    Calls Tryz.prog 89 #[.int .i64 i, .int .i64 k] w fun e w' => e = .returned (.string (nameS i k)) ∧ Below w.heap.size w w' := by
  have r0 : RowIs (w.alloc (.cells (cells8 (nameL i k)).toArray 5)) w.heap.size 5 (cells8 (nameL i k)) := RowIs.new w _ _
  have hc := run_convert_bytes_back (P := Tryz.prog) (w.alloc (.cells (cells8 (nameL i k)).toArray 5)) 55 9 5 ⟨w.heap.size, 0, none⟩ 6 (nameL i k) Tryz.underlying55 Tryz.underlying5 Tryz.underlying9 (by
    intro j hj
    rw [show (⟨w.heap.size, 0, none⟩ : Addr).add j = ⟨w.heap.size, j, none⟩ from by simp [Addr.add]; exact fun h => h.symm]
    exact r0.cellAt (cells8_at _ j hj))
  have x1 : (((UInt8.ofNat (65 + i % 26)).toNat : Nat) : Int) = 65 + (i : Int) % 26 := byte_of 65 26 (by omega) i (by omega)
  have x2 : (((UInt8.ofNat (65 + i / 26 % 26)).toNat : Nat) : Int) = 65 + (i : Int) / 26 % 26 := byte_of 65 26 (by omega) (i / 26) (by omega)
  have x3 : (((UInt8.ofNat (48 + k % 10)).toNat : Nat) : Int) = 48 + (k : Int) % 10 := byte_of 48 10 (by omega) k (by omega)
  have x4 : (((UInt8.ofNat (48 + k / 10 % 10)).toNat : Nat) : Int) = 48 + (k : Int) / 10 % 10 := byte_of 48 10 (by omega) (k / 10) (by omega)
  have x5 : (((UInt8.ofNat (48 + k / 100 % 10)).toNat : Nat) : Int) = 48 + (k : Int) / 100 % 10 := byte_of 48 10 (by omega) (k / 100) (by omega)
  have hcs : (cells8 (nameL i k)).toArray = #[.int .u8 109, .int .u8 (65 + (i : Int) % 26), .int .u8 (65 + (i : Int) / 26 % 26), .int .u8 (48 + (k : Int) % 10), .int .u8 (48 + (k : Int) / 10 % 10), .int .u8 (48 + (k : Int) / 100 % 10)] := by
    simp only [nameL, cells8, List.map_cons, List.map_nil, cell8, x1, x2, x3, x4, x5]
    rfl
  rw [hcs] at hc
  rw [show (nameL i k).length = 6 from rfl] at hc
  clear x1 x2 x3 x4 x5 hcs r0
  go_enter Tryz.func89, Tryz.ntmps89
  go_wp2
  go_ret
  exact ⟨rfl, (Below.refl _ _).alloc (Nat.le_refl _) _⟩

/-- The marks of list i: as many as n, the first one's place is a. -/
def marksT (i a n : Nat) : List ByteArray := (List.range n).map (fun k => nameS i (a + k))
theorem marksT_len (i a n : Nat) : (marksT i a n).length = n := by simp [marksT]
theorem marksT_succ (i a n : Nat) : marksT i a (n + 1) = marksT i a n ++ [nameS i (a + n)] := by
  simp [marksT, List.range_succ]
theorem marksT_app (i a n m : Nat) : marksT i a n ++ marksT i (a + n) m = marksT i a (n + m) := by
  induction m with
  | zero => simp [marksT]
  | succ m ih => rw [marksT_succ, ← List.append_assoc, ih, ← Nat.add_assoc n m 1, marksT_succ, Nat.add_assoc a n m]

set_option maxRecDepth 100000 in
set_option maxHeartbeats 1000000 in
theorem book_markTexts (i a n : Nat) (w : World) (hi : i ≤ 100000) (ha : a ≤ 1000000000) (hn : n ≤ 1000000000) :
    Calls Tryz.prog 78 #[.int .i64 i, .int .i64 a, .int .i64 n] w fun e w' => (∃ v, OwnT w' w.heap.size v (marksT i a n) ∧ e = .returned v) ∧ Below w.heap.size w w' := by
  obtain ⟨i0, hi0, hz0, hz1, hz2⟩ := info_parts infoT
  have hnil : OwnT w w.heap.size (.slice none 0 0) (marksT i a 0) := World.ownsRow_nil w _ _ _
  go_enter Tryz.func78, Tryz.ntmps78
  go_wp2_with fail
  go_loopw [7, 8] (fun v k wr => ∃ m : Nat, m ≤ n ∧ k = .int .i64 ((a + m : Nat) : Int) ∧ OwnT wr w.heap.size v (marksT i a m) ∧ Below w.heap.size w wr) (fun _ k _ => a + n - (intOf k).toNat)
  case atStart => exact ⟨0, Nat.zero_le _, by simp, hnil, Below.refl _ _⟩
  case round =>
    clear hnil
    obtain ⟨m, hm, rfl, hown, hbel⟩ := hrel
    by_cases hlt : m < n
    · have HS : Hid (marksT i a (m + 1) = marksT i a m ++ [nameS i (a + m)]) := marksT_succ i a m
      have d1 : decide (((a + m : Nat) : Int) < (a : Int) + (n : Int)) = true := by simp; omega
      obtain ⟨km, hkm⟩ : ∃ km, km = a + m := ⟨_, rfl⟩
      rw [← hkm] at HS d1 ⊢
      have HK : Hid (km = a + m) := hkm
      have hk2 : km ≤ 2000000000 := by omega
      clear hkm
      have PN : Hid _ := fun w => book_name i km w hi hk2
      generalize nameS i km = X at *
      have HO : Hid _ := hown
      clear hown
      obtain ⟨ao, co, rfl⟩ : ∃ a c, u7 = .slice a m c := by
        have := OwnT.shape HO.out
        rw [marksT_len] at this
        exact this
      go_wp2_with fail
      with_reducible refine (PN.out _).mono ?_
      rintro e w1 ⟨rfl, b1⟩
      have hown' : w1.ownsRow w.heap.size 9 1 (.slice ao m co) m (cellsT (marksT i a m)) := by have := OwnT.below HO.out b1; unfold OwnT at this; rwa [marksT_len] at this
      replace hbel := bel_chain8 hbel b1
      clear b1
      go_wp2_with (first | (at_builtin; refine wpList_append_lies _ rfl (.tmp 17) (.tmp 21) 23 rfl w.heap.size 9 i0 (.string ⟨#[]⟩) 1 16 Tryz.underlying23 hi0 hz0 hz1 hz2 rfl (by decide) (.slice ao m co) m (cellsT (marksT i a m)) rfl (hown'.alloc _) ⟨w1.heap.size, 0, none⟩ 1 1 (cellsT [X]) rfl rfl (World.news_of_block (heap_alloc_new w1 _)) (cellsT_one _) (by decide) (by unfold maxLen; omega) (by omega) (by have := hbel.size; simp; omega) _ rfl ?_))
      intro g2 cap2 w2 hown2 hgrow2 hat hlt2
      go_wp2
      go_roundw
      case rel =>
        refine ⟨m + 1, by omega, by rw [HK.out]; go_num, ?_, ?_⟩
        · unfold OwnT
          rw [HS.out, cellsT_append, List.length_append, marksT_len]
          exact hown2
        · have hz := hbel.size
          exact (hbel.alloc (by omega) _).grown hgrow2 (by simp; omega) (fun j hj => (hown'.lt j hj).1)
      case measure => simp only [intOf]; have := HK.out; omega
    · have d1 : decide (((a + m : Nat) : Int) < (a : Int) + (n : Int)) = false := by simp; omega
      obtain rfl : m = n := by omega
      go_wp2
      go_ret
      exact ⟨⟨_, hown, rfl⟩, hbel⟩

end Go.Proofs.YtgcbanmjfnnccaaGreat

/-
  More operations of a region that draws its order.
-/
namespace Go.Proofs.YtgcbanmjfnnccaaGreat
open Go.RowKit
set_option linter.unusedVariables false
set_option maxRecDepth 100000
set_option linter.unusedSimpArgs false

section
variable {P : Program}
theorem run_convI' {a : Act} {o : Oper} {x : Operand} {s t : TypeId} {k k' : IntKind} {n m : Int} (ho : o.op = .convert s t x) (hx : a.eval x = .int k n) (hs : (P.underlying s).isSome = true) (hd : P.underlying t = some (.int k')) (hm : k'.wrap n = m) (w : World) :
    (execOp a.eval o).run P w = .ok (.value (.int k' m)) w := by
  have hk : P.intKind t = k' := by simp [Program.intKind, hd]
  have := run_convert_int (P := P) w s t k n hs (by rw [hk]; exact hd)
  rw [hk, hm] at this
  exact run_convert' ho hx this
theorem run_load1' {a : Act} {o : Oper} {x : Operand} {t : TypeId} {p : Addr} {v : Value} {d : TypeDesc} (ho : o.op = .load t x) (hx : a.eval x = .pointer (some p)) (hu : P.underlying t = some d) (hd : d.isRow = false) (w : World) (hc : w.cell? p = some v) :
    (execOp a.eval o).run P w = .ok (.value v) w := by
  have hrun : (Instr.loadAt t (.pointer (some p))).run P w = .ok v w := by
    have hagg : (isAgg t).run P w = .ok false w := by
      unfold isAgg
      rw [Sem.run_bind, run_underlying hu w]
      cases d <;> first | rfl | (simp [TypeDesc.isRow] at hd)
    simp [go_sem, hagg, hc]
  unfold execOp
  simp only [ho, hx, Sem.run_bind, hrun]
  rfl
theorem run_lenL' {a : Act} {o : Oper} {x : Operand} {t e : TypeId} {ts : Array TypeId} {p : Option Addr} {n c : Nat} (ho : o.op = .call { callee := .builtin .len, args := #[x], argTypes := ts }) (hx : a.eval x = .slice p n c) (ht : ts[0]? = some t) (hu : P.underlying t = some (.slice e)) (w : World) :
    (execOp a.eval o).run P w = .ok (.value (.int .i64 (n : Int))) w := by
  revert hx
  generalize a.eval = ev
  intro hx
  unfold execOp
  simp [ho, go_sem, hx, Builtin.len_, ht, run_underlying hu]
theorem run_index1' {a : Act} {o : Oper} {x ix : Operand} {t : TypeId} {s : ByteArray} {k : Nat} (ho : o.op = .index t x ix) (hx : a.eval x = .string s) (hi : a.eval ix = .int .i64 (k : Int)) (hk : k < s.size) (hu : P.underlying t = some .string) (w : World) :
    (execOp a.eval o).run P w = .ok (.value (.int .u8 ((s.data.toList.getD k 0).toNat : Int))) w := by
  have h0 : (0 : Int) ≤ (k : Int) := by omega
  have h1 : (k : Int) < (s.size : Int) := by omega
  revert hx hi
  generalize a.eval = ev
  intro hx hi
  unfold execOp
  simp [ho, go_sem, hx, hi, run_underlying hu, hu, hk, List.getD_eq_getElem?_getD]
  rfl
end
theorem act_ext0 {a b : Act} (hs : a.tmps.size = b.tmps.size) (hd : a.defers = b.defers) (h : ∀ t : Nat, a.eval (.tmp t) = b.eval (.tmp t)) : a = b := by
  obtain ⟨ta, da⟩ := a
  obtain ⟨tb, db⟩ := b
  simp only at hd hs
  subst hd
  congr 1
  apply Array.ext hs
  intro i h1 h2
  have := h i
  simpa [Act.eval, h1, h2] using this
/-- A frame out of another one, by the slots in which they may part. -/
theorem act_puts (a : Act) : ∀ (b : Act) (ds : List Nat), a.tmps.size = b.tmps.size → a.defers = b.defers → (∀ d ∈ ds, d < a.tmps.size) → (∀ t : Nat, t ∉ ds → a.eval (.tmp t) = b.eval (.tmp t)) → a = ds.foldl (fun c d => c.put (some d) (a.eval (.tmp d))) b
  | b, [], hs, hd, _, h => act_ext0 hs hd (fun t => h t (by simp))
  | b, d :: ds, hs, hd, hl, h => by
    refine act_puts a (b.put (some d) (a.eval (.tmp d))) ds (by rw [size_put, hs]) (by rw [defers_put, hd]) (fun x hx => hl x (by simp [hx])) (fun t ht => ?_)
    by_cases hdt : t = d
    · subst hdt
      rw [eval_put, if_pos ⟨rfl, by rw [← hs]; exact hl t (by simp)⟩]
    · rw [eval_put_ne (fun e => hdt e.symm)]
      exact h t (by simp [hdt, ht])
theorem conv_one {w : World} {g : Nat} {c : UInt8} (h : RowIs w g 5 [.int .u8 (c.toNat : Int)]) : (convert 55 9 (.slice (some ⟨g, 0, none⟩) 1 1)).run Tryz.prog w = .ok (.string (str [c])) w := by
  refine run_convert_bytes_back w _ _ 5 ⟨g, 0, none⟩ 1 [c] Tryz.underlying55 Tryz.underlying5 Tryz.underlying9 ?_
  intro j hj
  obtain rfl : j = 0 := by simpa using hj
  exact h.cellAt rfl

end Go.Proofs.YtgcbanmjfnnccaaGreat

/-
  One region that draws its order, laid by program: escutcheonref1.PutReply, region 3.
-/
namespace Go.Proofs.YtgcbanmjfnnccaaGreat
open Go.RowKit
set_option linter.unusedVariables false
set_option maxRecDepth 100000
set_option linter.unusedSimpArgs false

def rfputrL : List (Option Tmp × Op) :=
  [(some 42, .fieldAddr 25 (.tmp 1) 0),
   (some 43, .load 22 (.tmp 42)),
   (some 44, .convert 22 5 (.tmp 43)),
   (some 45, .buildSlice 55 1 #[(0, (.tmp 44))]),
   (some 46, .convert 55 9 (.tmp 45)),
   (some 47, .fieldAddr 25 (.tmp 1) 2),
   (some 48, .load 3 (.tmp 47)),
   (some 49, .binOp .add 3 (.tmp 48) (.const (.int .i64 1000000000000)) 3),
   (some 50, .convert 3 63 (.tmp 49)),
   (some 51, .call { callee := .value (.func 26), args := #[(.tmp 50), (.const (.int .i64 8))], argTypes := #[63, 3] }),
   (some 52, .binOp .add 9 (.tmp 46) (.tmp 51) 9),
   (some 53, .fieldAddr 25 (.tmp 1) 3),
   (some 54, .load 3 (.tmp 53)),
   (some 55, .convert 3 63 (.tmp 54)),
   (some 56, .call { callee := .value (.func 26), args := #[(.tmp 55), (.const (.int .i64 8))], argTypes := #[63, 3] }),
   (some 57, .binOp .add 9 (.tmp 52) (.tmp 56) 9),
   (some 58, .fieldAddr 25 (.tmp 1) 1),
   (some 59, .load 9 (.tmp 58)),
   (some 60, .call { callee := .builtin .len, args := #[(.tmp 59)], argTypes := #[9] }),
   (some 61, .convert 3 63 (.tmp 60)),
   (some 62, .call { callee := .value (.func 26), args := #[(.tmp 61), (.const (.int .i64 2))], argTypes := #[63, 3] }),
   (some 63, .binOp .add 9 (.tmp 57) (.tmp 62) 9),
   (some 64, .fieldAddr 25 (.tmp 1) 1),
   (some 65, .load 9 (.tmp 64)),
   (some 66, .binOp .add 9 (.tmp 63) (.tmp 65) 9),
   (some 67, .fieldAddr 25 (.tmp 1) 4),
   (some 68, .load 23 (.tmp 67)),
   (some 69, .call { callee := .builtin .len, args := #[(.tmp 68)], argTypes := #[23] }),
   (some 70, .convert 3 5 (.tmp 69)),
   (some 71, .buildSlice 55 1 #[(0, (.tmp 70))]),
   (some 72, .convert 55 9 (.tmp 71)),
   (some 73, .binOp .add 9 (.tmp 66) (.tmp 72) 9),
   (some 4, .assign (.tmp 73))]
def rfputrW : List (List Nat) :=
  [[],
   [0],
   [1],
   [2],
   [3],
   [],
   [5],
   [6],
   [7],
   [8],
   [4, 9],
   [],
   [11],
   [12],
   [9, 13],
   [10, 14],
   [],
   [16],
   [17],
   [18],
   [14, 19],
   [15, 20],
   [],
   [22],
   [21, 23],
   [],
   [25],
   [26],
   [27],
   [28],
   [29],
   [24, 30],
   [0, 1, 2, 3, 4, 5, 6, 7, 8, 9, 10, 11, 12, 13, 14, 15, 16, 17, 18, 19, 20, 21, 22, 23, 24, 25, 26, 27, 28, 29, 30, 31]]

set_option maxHeartbeats 1000000 in
theorem rfputr_region {id : Nat} {ops : Array Oper} {Q : Exit → Act → World → Prop} {a0 : Act} {w : World} (b : Nat) (e num ver N : Int) (value s2 s3 s4 : ByteArray) (oa : Option Addr) (n cap : Nat) (hn1 : IntKind.i64.wrap (num + 1000000000000) = N) (hn2 : IntKind.u64.wrap N = N) (hv : IntKind.u64.wrap ver = ver) (hz : IntKind.u64.wrap (value.size : Int) = (value.size : Int)) (z2 : value.size ≤ 500) (z3 : s2.size ≤ 8) (z4 : s3.size ≤ 8) (z5 : s4.size ≤ 8) (hP2 : ∀ w, Calls Tryz.prog 26 #[.int .u64 N, .int .i64 8] w fun e w5 => e = .returned (.string s2) ∧ Below w.heap.size w w5) (hP3 : ∀ w, Calls Tryz.prog 26 #[.int .u64 ver, .int .i64 8] w fun e w5 => e = .returned (.string s3) ∧ Below w.heap.size w w5) (hP4 : ∀ w, Calls Tryz.prog 26 #[.int .u64 (value.size : Int), .int .i64 2] w fun e w5 => e = .returned (.string s4) ∧ Below w.heap.size w w5) (hok : regOk ops 106 = true) (hk : kinds ops = rfputrL) (hL : waitsL ops = rfputrW) (hsz : a0.tmps.size = 106) (h1 : a0.eval (.tmp 1) = .pointer (some ⟨b, 0, none⟩)) (hrow : RowIs w b 25 [.int .i64 e, .string value, .int .i64 num, .int .i64 ver, .slice oa n cap])
    (hend : ∀ (v42 v43 v44 v45 v46 v47 v48 v49 v50 v51 v52 v53 v54 v55 v56 v57 v58 v59 v60 v61 v62 v63 v64 v65 v66 v67 v68 v69 v70 v71 v72 v73 : Value) w5, Below w.heap.size w w5 → Q .normal (((((((((((((((((((((((((((((((((a0.put (some 42) v42).put (some 43) v43).put (some 44) v44).put (some 45) v45).put (some 46) v46).put (some 47) v47).put (some 48) v48).put (some 49) v49).put (some 50) v50).put (some 51) v51).put (some 52) v52).put (some 53) v53).put (some 54) v54).put (some 55) v55).put (some 56) v56).put (some 57) v57).put (some 58) v58).put (some 59) v59).put (some 60) v60).put (some 61) v61).put (some 62) v62).put (some 63) v63).put (some 64) v64).put (some 65) v65).put (some 66) v66).put (some 67) v67).put (some 68) v68).put (some 69) v69).put (some 70) v70).put (some 71) v71).put (some 72) v72).put (some 73) v73).put (some 4) (.string ((((((str [byteOf e 0]) ++ s2) ++ s3) ++ s4) ++ value) ++ (str [byteOf (n : Int) 0])))) w5) :
    (Code.region id ops true).wp Tryz.prog Q a0 w := by
  obtain ⟨F, hF⟩ : ∃ F : List (Value → World → Prop), F = [fun v _ => v = .pointer (some ⟨b, 0, none⟩),
    fun v _ => v = .int .i64 e,
    fun v _ => v = .int .u8 ((byteOf e 0).toNat : Int),
    fun v w => ∃ g, v = .slice (some ⟨g, 0, none⟩) 1 1 ∧ RowIs w g 5 [.int .u8 ((byteOf e 0).toNat : Int)],
    fun v _ => v = .string (str [byteOf e 0]),
    fun v _ => v = .pointer (some ⟨b, 2, none⟩),
    fun v _ => v = .int .i64 num,
    fun v _ => v = .int .i64 N,
    fun v _ => v = .int .u64 N,
    fun v _ => v = .string s2,
    fun v _ => v = .string ((str [byteOf e 0]) ++ s2),
    fun v _ => v = .pointer (some ⟨b, 3, none⟩),
    fun v _ => v = .int .i64 ver,
    fun v _ => v = .int .u64 ver,
    fun v _ => v = .string s3,
    fun v _ => v = .string (((str [byteOf e 0]) ++ s2) ++ s3),
    fun v _ => v = .pointer (some ⟨b, 1, none⟩),
    fun v _ => v = .string value,
    fun v _ => v = .int .i64 ((value).size : Int),
    fun v _ => v = .int .u64 (value.size : Int),
    fun v _ => v = .string s4,
    fun v _ => v = .string ((((str [byteOf e 0]) ++ s2) ++ s3) ++ s4),
    fun v _ => v = .pointer (some ⟨b, 1, none⟩),
    fun v _ => v = .string value,
    fun v _ => v = .string (((((str [byteOf e 0]) ++ s2) ++ s3) ++ s4) ++ value),
    fun v _ => v = .pointer (some ⟨b, 4, none⟩),
    fun v _ => v = .slice oa n cap,
    fun v _ => v = .int .i64 (n : Int),
    fun v _ => v = .int .u8 ((byteOf (n : Int) 0).toNat : Int),
    fun v w => ∃ g, v = .slice (some ⟨g, 0, none⟩) 1 1 ∧ RowIs w g 5 [.int .u8 ((byteOf (n : Int) 0).toNat : Int)],
    fun v _ => v = .string (str [byteOf (n : Int) 0]),
    fun v _ => v = .string ((((((str [byteOf e 0]) ++ s2) ++ s3) ++ s4) ++ value) ++ (str [byteOf (n : Int) 0])),
    fun v _ => v = .string ((((((str [byteOf e 0]) ++ s2) ++ s3) ++ s4) ++ value) ++ (str [byteOf (n : Int) 0]))] := ⟨_, rfl⟩
  obtain ⟨R, hRd⟩ : ∃ R : World → Prop, R = fun w5 => Below w.heap.size w w5 ∧ RowIs w5 b 25 [.int .i64 e, .string value, .int .i64 num, .int .i64 ver, .slice oa n cap] := ⟨_, rfl⟩
  have st0 : StepP Tryz.prog Q rfputrL rfputrW F R a0 0 := by
    subst hF hRd
    intro o hd ho a w hR hout hJ
    exact st_v hd (run_field' (n := 0) ho ((hout 1 (by decide)).trans h1) Tryz.underlying25 rfl (by kernel_rfl) w) rfl
  have st1 : StepP Tryz.prog Q rfputrL rfputrW F R a0 1 := by
    subst hF hRd
    intro o hd ho a w hR hout hJ
    exact st_v hd (run_load1' ho (show a.eval (.tmp 42) = .pointer (some ⟨b, 0, none⟩) from hJ 0 (by decide)) Tryz.underlying22 rfl w (hR.2.cellAt rfl)) rfl
  have st2 : StepP Tryz.prog Q rfputrL rfputrW F R a0 2 := by
    subst hF hRd
    intro o hd ho a w hR hout hJ
    exact st_v hd (run_convI' ho (show a.eval (.tmp 43) = .int .i64 e from hJ 1 (by decide)) (by kernel_rfl) Tryz.underlying5 (u8_byte e) w) rfl
  have st3 : StepP Tryz.prog Q rfputrL rfputrW F R a0 3 := by
    subst hF hRd
    intro o hd ho a w hR hout hJ
    obtain ⟨i0, hi0, hz0, hz1, hz2⟩ := info_parts info8
    exact st_m hd (run_build1' ho (show a.eval (.tmp 44) = .int .u8 ((byteOf e 0).toNat : Int) from hJ 2 (by decide)) Tryz.underlying55 hi0 hz1 hz0 (fun cs => nofun) w) ((Below.refl _ _).alloc (Nat.le_refl _) _) ⟨w.heap.size, rfl, RowIs.new w _ _⟩
  have st4 : StepP Tryz.prog Q rfputrL rfputrW F R a0 4 := by
    subst hF hRd
    intro o hd ho a w hR hout hJ
    obtain ⟨g, hv, hr⟩ := hJ 3 (by decide)
    exact st_v hd (run_convert' ho hv (conv_one hr)) rfl
  have st5 : StepP Tryz.prog Q rfputrL rfputrW F R a0 5 := by
    subst hF hRd
    intro o hd ho a w hR hout hJ
    exact st_v hd (run_field' (n := 0) ho ((hout 1 (by decide)).trans h1) Tryz.underlying25 rfl (by kernel_rfl) w) rfl
  have st6 : StepP Tryz.prog Q rfputrL rfputrW F R a0 6 := by
    subst hF hRd
    intro o hd ho a w hR hout hJ
    exact st_v hd (run_load1' ho (show a.eval (.tmp 47) = .pointer (some ⟨b, 2, none⟩) from hJ 5 (by decide)) Tryz.underlying3 rfl w (hR.2.cellAt rfl)) rfl
  have st7 : StepP Tryz.prog Q rfputrL rfputrW F R a0 7 := by
    subst hF hRd
    intro o hd ho a w hR hout hJ
    have h5 := run_addI' ho (show a.eval (.tmp 48) = .int .i64 num from hJ 6 (by decide)) rfl Tryz.underlying3 w
    rw [hn1] at h5
    exact st_v hd h5 rfl
  have st8 : StepP Tryz.prog Q rfputrL rfputrW F R a0 8 := by
    subst hF hRd
    intro o hd ho a w hR hout hJ
    exact st_v hd (run_convI' ho (show a.eval (.tmp 49) = .int .i64 N from hJ 7 (by decide)) (by kernel_rfl) Tryz.underlying63 hn2 w) rfl
  have st9 : StepP Tryz.prog Q rfputrL rfputrW F R a0 9 := by
    subst hF hRd
    intro o hd ho a w hR hout hJ
    have q0 : a.eval (.tmp 50) = .int .u64 N := (show a.eval (.tmp 50) = .int .u64 N from hJ 8 (by decide))
    have q1 : a.eval (.const (.int .i64 8)) = .int .i64 8 := rfl
    exact st_c (vs := #[.int .u64 N, .int .i64 8]) hd ho (by simp only [List.map_toArray, List.map_cons, List.map_nil, q0, q1]) (by simp [go_sem]) ((hP2 w).mono fun e w5 hh => ⟨_, hh.1, hh.2, rfl⟩)
  have st10 : StepP Tryz.prog Q rfputrL rfputrW F R a0 10 := by
    subst hF hRd
    intro o hd ho a w hR hout hJ
    exact st_v hd (run_cat' ho (show a.eval (.tmp 46) = .string (str [byteOf e 0]) from hJ 4 (by decide)) (show a.eval (.tmp 51) = .string s2 from hJ 9 (by decide)) Tryz.underlying9 (by simp only [ByteArray.size_append, str_size, List.length_cons, List.length_nil]; omega) w) rfl
  have st11 : StepP Tryz.prog Q rfputrL rfputrW F R a0 11 := by
    subst hF hRd
    intro o hd ho a w hR hout hJ
    exact st_v hd (run_field' (n := 0) ho ((hout 1 (by decide)).trans h1) Tryz.underlying25 rfl (by kernel_rfl) w) rfl
  have st12 : StepP Tryz.prog Q rfputrL rfputrW F R a0 12 := by
    subst hF hRd
    intro o hd ho a w hR hout hJ
    exact st_v hd (run_load1' ho (show a.eval (.tmp 53) = .pointer (some ⟨b, 3, none⟩) from hJ 11 (by decide)) Tryz.underlying3 rfl w (hR.2.cellAt rfl)) rfl
  have st13 : StepP Tryz.prog Q rfputrL rfputrW F R a0 13 := by
    subst hF hRd
    intro o hd ho a w hR hout hJ
    exact st_v hd (run_convI' ho (show a.eval (.tmp 54) = .int .i64 ver from hJ 12 (by decide)) (by kernel_rfl) Tryz.underlying63 hv w) rfl
  have st14 : StepP Tryz.prog Q rfputrL rfputrW F R a0 14 := by
    subst hF hRd
    intro o hd ho a w hR hout hJ
    have q0 : a.eval (.tmp 55) = .int .u64 ver := (show a.eval (.tmp 55) = .int .u64 ver from hJ 13 (by decide))
    have q1 : a.eval (.const (.int .i64 8)) = .int .i64 8 := rfl
    exact st_c (vs := #[.int .u64 ver, .int .i64 8]) hd ho (by simp only [List.map_toArray, List.map_cons, List.map_nil, q0, q1]) (by simp [go_sem]) ((hP3 w).mono fun e w5 hh => ⟨_, hh.1, hh.2, rfl⟩)
  have st15 : StepP Tryz.prog Q rfputrL rfputrW F R a0 15 := by
    subst hF hRd
    intro o hd ho a w hR hout hJ
    exact st_v hd (run_cat' ho (show a.eval (.tmp 52) = .string ((str [byteOf e 0]) ++ s2) from hJ 10 (by decide)) (show a.eval (.tmp 56) = .string s3 from hJ 14 (by decide)) Tryz.underlying9 (by simp only [ByteArray.size_append, str_size, List.length_cons, List.length_nil]; omega) w) rfl
  have st16 : StepP Tryz.prog Q rfputrL rfputrW F R a0 16 := by
    subst hF hRd
    intro o hd ho a w hR hout hJ
    exact st_v hd (run_field' (n := 0) ho ((hout 1 (by decide)).trans h1) Tryz.underlying25 rfl (by kernel_rfl) w) rfl
  have st17 : StepP Tryz.prog Q rfputrL rfputrW F R a0 17 := by
    subst hF hRd
    intro o hd ho a w hR hout hJ
    exact st_v hd (run_load1' ho (show a.eval (.tmp 58) = .pointer (some ⟨b, 1, none⟩) from hJ 16 (by decide)) Tryz.underlying9 rfl w (hR.2.cellAt rfl)) rfl
  have st18 : StepP Tryz.prog Q rfputrL rfputrW F R a0 18 := by
    subst hF hRd
    intro o hd ho a w hR hout hJ
    exact st_v hd (run_lenS' ho (show a.eval (.tmp 59) = .string value from hJ 17 (by decide)) rfl Tryz.underlying9 w) rfl
  have st19 : StepP Tryz.prog Q rfputrL rfputrW F R a0 19 := by
    subst hF hRd
    intro o hd ho a w hR hout hJ
    exact st_v hd (run_convI' ho (show a.eval (.tmp 60) = .int .i64 ((value).size : Int) from hJ 18 (by decide)) (by kernel_rfl) Tryz.underlying63 hz w) rfl
  have st20 : StepP Tryz.prog Q rfputrL rfputrW F R a0 20 := by
    subst hF hRd
    intro o hd ho a w hR hout hJ
    have q0 : a.eval (.tmp 61) = .int .u64 (value.size : Int) := (show a.eval (.tmp 61) = .int .u64 (value.size : Int) from hJ 19 (by decide))
    have q1 : a.eval (.const (.int .i64 2)) = .int .i64 2 := rfl
    exact st_c (vs := #[.int .u64 (value.size : Int), .int .i64 2]) hd ho (by simp only [List.map_toArray, List.map_cons, List.map_nil, q0, q1]) (by simp [go_sem]) ((hP4 w).mono fun e w5 hh => ⟨_, hh.1, hh.2, rfl⟩)
  have st21 : StepP Tryz.prog Q rfputrL rfputrW F R a0 21 := by
    subst hF hRd
    intro o hd ho a w hR hout hJ
    exact st_v hd (run_cat' ho (show a.eval (.tmp 57) = .string (((str [byteOf e 0]) ++ s2) ++ s3) from hJ 15 (by decide)) (show a.eval (.tmp 62) = .string s4 from hJ 20 (by decide)) Tryz.underlying9 (by simp only [ByteArray.size_append, str_size, List.length_cons, List.length_nil]; omega) w) rfl
  have st22 : StepP Tryz.prog Q rfputrL rfputrW F R a0 22 := by
    subst hF hRd
    intro o hd ho a w hR hout hJ
    exact st_v hd (run_field' (n := 0) ho ((hout 1 (by decide)).trans h1) Tryz.underlying25 rfl (by kernel_rfl) w) rfl
  have st23 : StepP Tryz.prog Q rfputrL rfputrW F R a0 23 := by
    subst hF hRd
    intro o hd ho a w hR hout hJ
    exact st_v hd (run_load1' ho (show a.eval (.tmp 64) = .pointer (some ⟨b, 1, none⟩) from hJ 22 (by decide)) Tryz.underlying9 rfl w (hR.2.cellAt rfl)) rfl
  have st24 : StepP Tryz.prog Q rfputrL rfputrW F R a0 24 := by
    subst hF hRd
    intro o hd ho a w hR hout hJ
    exact st_v hd (run_cat' ho (show a.eval (.tmp 63) = .string ((((str [byteOf e 0]) ++ s2) ++ s3) ++ s4) from hJ 21 (by decide)) (show a.eval (.tmp 65) = .string value from hJ 23 (by decide)) Tryz.underlying9 (by simp only [ByteArray.size_append, str_size, List.length_cons, List.length_nil]; omega) w) rfl
  have st25 : StepP Tryz.prog Q rfputrL rfputrW F R a0 25 := by
    subst hF hRd
    intro o hd ho a w hR hout hJ
    exact st_v hd (run_field' (n := 0) ho ((hout 1 (by decide)).trans h1) Tryz.underlying25 rfl (by kernel_rfl) w) rfl
  have st26 : StepP Tryz.prog Q rfputrL rfputrW F R a0 26 := by
    subst hF hRd
    intro o hd ho a w hR hout hJ
    exact st_v hd (run_load1' ho (show a.eval (.tmp 67) = .pointer (some ⟨b, 4, none⟩) from hJ 25 (by decide)) Tryz.underlying23 rfl w (hR.2.cellAt rfl)) rfl
  have st27 : StepP Tryz.prog Q rfputrL rfputrW F R a0 27 := by
    subst hF hRd
    intro o hd ho a w hR hout hJ
    exact st_v hd (run_lenL' ho (show a.eval (.tmp 68) = .slice oa n cap from hJ 26 (by decide)) rfl Tryz.underlying23 w) rfl
  have st28 : StepP Tryz.prog Q rfputrL rfputrW F R a0 28 := by
    subst hF hRd
    intro o hd ho a w hR hout hJ
    exact st_v hd (run_convI' ho (show a.eval (.tmp 69) = .int .i64 (n : Int) from hJ 27 (by decide)) (by kernel_rfl) Tryz.underlying5 (u8_byte _) w) rfl
  have st29 : StepP Tryz.prog Q rfputrL rfputrW F R a0 29 := by
    subst hF hRd
    intro o hd ho a w hR hout hJ
    obtain ⟨i0, hi0, hz0, hz1, hz2⟩ := info_parts info8
    exact st_m hd (run_build1' ho (show a.eval (.tmp 70) = .int .u8 ((byteOf (n : Int) 0).toNat : Int) from hJ 28 (by decide)) Tryz.underlying55 hi0 hz1 hz0 (fun cs => nofun) w) ((Below.refl _ _).alloc (Nat.le_refl _) _) ⟨w.heap.size, rfl, RowIs.new w _ _⟩
  have st30 : StepP Tryz.prog Q rfputrL rfputrW F R a0 30 := by
    subst hF hRd
    intro o hd ho a w hR hout hJ
    obtain ⟨g, hv, hr⟩ := hJ 29 (by decide)
    exact st_v hd (run_convert' ho hv (conv_one hr)) rfl
  have st31 : StepP Tryz.prog Q rfputrL rfputrW F R a0 31 := by
    subst hF hRd
    intro o hd ho a w hR hout hJ
    exact st_v hd (run_cat' ho (show a.eval (.tmp 66) = .string (((((str [byteOf e 0]) ++ s2) ++ s3) ++ s4) ++ value) from hJ 24 (by decide)) (show a.eval (.tmp 72) = .string (str [byteOf (n : Int) 0]) from hJ 30 (by decide)) Tryz.underlying9 (by simp only [ByteArray.size_append, str_size, List.length_cons, List.length_nil]; omega) w) rfl
  have st32 : StepP Tryz.prog Q rfputrL rfputrW F R a0 32 := by
    subst hF hRd
    intro o hd ho a w hR hout hJ
    exact st_v hd (run_assign' ho (show a.eval (.tmp 73) = .string ((((((str [byteOf e 0]) ++ s2) ++ s3) ++ s4) ++ value) ++ (str [byteOf (n : Int) 0])) from hJ 31 (by decide)) w) rfl
  refine wp_region_F rfputrL rfputrW F R (by kernel_rfl) hok hk hL (n := 33) rfl hsz ?_ ?_ ?_ ?_ ?_
  · subst hRd; exact ⟨(Below.refl _ _).drew, RowIs.drew hrow⟩
  · subst hRd; intro u u2 hu hb; exact ⟨hu.1.trans (hb.mono hu.1.size), RowIs.below hu.2 hb (RowIs.lt hu.2)⟩
  · subst hF; exact ⟨fun _ _ _ _ h => h, fun _ _ _ _ h => h, fun _ _ _ _ h => h, fun _ _ _ hb ⟨g, e, r⟩ => ⟨g, e, RowIs.below r hb (RowIs.lt r)⟩, fun _ _ _ _ h => h, fun _ _ _ _ h => h, fun _ _ _ _ h => h, fun _ _ _ _ h => h, fun _ _ _ _ h => h, fun _ _ _ _ h => h, fun _ _ _ _ h => h, fun _ _ _ _ h => h, fun _ _ _ _ h => h, fun _ _ _ _ h => h, fun _ _ _ _ h => h, fun _ _ _ _ h => h, fun _ _ _ _ h => h, fun _ _ _ _ h => h, fun _ _ _ _ h => h, fun _ _ _ _ h => h, fun _ _ _ _ h => h, fun _ _ _ _ h => h, fun _ _ _ _ h => h, fun _ _ _ _ h => h, fun _ _ _ _ h => h, fun _ _ _ _ h => h, fun _ _ _ _ h => h, fun _ _ _ _ h => h, fun _ _ _ _ h => h, fun _ _ _ hb ⟨g, e, r⟩ => ⟨g, e, RowIs.below r hb (RowIs.lt r)⟩, fun _ _ _ _ h => h, fun _ _ _ _ h => h, fun _ _ _ _ h => h, True.intro⟩
  · intro i hi
    match i, hi with
    | 0, _ => exact st0
    | 1, _ => exact st1
    | 2, _ => exact st2
    | 3, _ => exact st3
    | 4, _ => exact st4
    | 5, _ => exact st5
    | 6, _ => exact st6
    | 7, _ => exact st7
    | 8, _ => exact st8
    | 9, _ => exact st9
    | 10, _ => exact st10
    | 11, _ => exact st11
    | 12, _ => exact st12
    | 13, _ => exact st13
    | 14, _ => exact st14
    | 15, _ => exact st15
    | 16, _ => exact st16
    | 17, _ => exact st17
    | 18, _ => exact st18
    | 19, _ => exact st19
    | 20, _ => exact st20
    | 21, _ => exact st21
    | 22, _ => exact st22
    | 23, _ => exact st23
    | 24, _ => exact st24
    | 25, _ => exact st25
    | 26, _ => exact st26
    | 27, _ => exact st27
    | 28, _ => exact st28
    | 29, _ => exact st29
    | 30, _ => exact st30
    | 31, _ => exact st31
    | 32, _ => exact st32
    | k + 33, h => exact absurd h (by omega)
  · subst hF hRd
    intro a w5 hR hs hdf hout hJ
    have hEqA := act_puts a a0 [42, 43, 44, 45, 46, 47, 48, 49, 50, 51, 52, 53, 54, 55, 56, 57, 58, 59, 60, 61, 62, 63, 64, 65, 66, 67, 68, 69, 70, 71, 72, 73, 4] (by rw [hs, hsz]) hdf (by rw [hs]; decide) (fun t ht => hout t (fun h => ht (by simpa [rfputrL] using h)))
    simp only [List.foldl] at hEqA
    rw [show a.eval (.tmp 4) = .string ((((((str [byteOf e 0]) ++ s2) ++ s3) ++ s4) ++ value) ++ (str [byteOf (n : Int) 0])) from hJ 32 (by omega)] at hEqA
    rw [hEqA]
    exact hend _ _ _ _ _ _ _ _ _ _ _ _ _ _ _ _ _ _ _ _ _ _ _ _ _ _ _ _ _ _ _ _ _ hR.1

end Go.Proofs.YtgcbanmjfnnccaaGreat
