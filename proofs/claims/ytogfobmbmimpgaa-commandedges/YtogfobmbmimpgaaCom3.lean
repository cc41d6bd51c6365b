/-
  The contracts of package command's tests (isOp, isKey, areNumbers, Right), of Class, and of the reference's.
-/
import Derived.Test.YtogfobmbmimpgaaCom0
import Derived.Test.YtogfobmbmimpgaaMem0
import Derived.Test.YtogfobmbmimpgaaBok0
import Derived.Test.YtogfobmbmimpgaaStrEq
namespace Go.Proofs.Ytogfobmbmimpgaa
open Go.RowKit
set_option linter.unusedVariables false
set_option maxRecDepth 100000
set_option linter.unusedSimpArgs false

theorem str_at10 (s : ByteArray) (n : Nat) (h : n < s.size) : s[n] = s.data.toList.getD n 0 := by
  rw [List.getD_eq_getElem?_getD, List.getElem?_eq_getElem (by simpa using h)]
  rfl
theorem u8_byte (v : Int) : IntKind.u8.wrap v = ((byteOf v 0).toNat : Int) := by
  rw [byteOf_val, IntKind.wrap_u8]
  simp
abbrev IsOp (op : Int) : Prop := 1 ≤ op ∧ op ≤ 13
abbrev NumsOk (num ver : Int) : Prop := (-1000000000000 ≤ num ∧ num ≤ 1000000000000) ∧ (0 ≤ ver ∧ ver ≤ 1000000000000)
theorem ret_bool {a b : Bool} (h : a = b) : Ending.returned (.bool a) = .returned (.bool b) := by rw [h]

theorem command_isOp (op : Int) (w : World) : Calls Try.prog 30 #[.int .i64 op] w fun e w' => e = .returned (.bool (decide (IsOp op))) ∧ w = w' := by
  by_cases h1 : 1 ≤ op
  · by_cases h2 : op ≤ 13
    · rw [show decide (IsOp op) = true from decide_eq_true ⟨h1, h2⟩]
      have d1 : decide (1 ≤ op) = true := decide_eq_true h1
      have d2 : decide (op ≤ 13) = true := decide_eq_true h2
      clear h1 h2
      go_enter Try.func30, Try.ntmps30
      go_wp2
      go_ret
      exact ⟨rfl, rfl⟩
    · rw [show decide (IsOp op) = false from decide_eq_false (fun h => h2 h.2)]
      have d1 : decide (1 ≤ op) = true := decide_eq_true h1
      have d2 : decide (op ≤ 13) = false := decide_eq_false h2
      clear h1 h2
      go_enter Try.func30, Try.ntmps30
      go_wp2
      go_ret
      exact ⟨rfl, rfl⟩
  · rw [show decide (IsOp op) = false from decide_eq_false (fun h => h1 h.1)]
    have d1 : decide (1 ≤ op) = false := decide_eq_false h1
    clear h1
    go_enter Try.func30, Try.ntmps30
    go_wp2
    go_ret
    exact ⟨rfl, rfl⟩

theorem command_areNumbers (num ver : Int) (w : World) : Calls Try.prog 32 #[.int .i64 num, .int .i64 ver] w fun e w' => e = .returned (.bool (decide (NumsOk num ver))) ∧ w = w' := by
  obtain ⟨x1, y1⟩ : ∃ x, decide (-1000000000000 ≤ num) = x := ⟨_, rfl⟩
  obtain ⟨x2, y2⟩ : ∃ x, decide (num ≤ 1000000000000) = x := ⟨_, rfl⟩
  obtain ⟨x3, y3⟩ : ∃ x, decide (0 ≤ ver) = x := ⟨_, rfl⟩
  obtain ⟨x4, y4⟩ : ∃ x, decide (ver ≤ 1000000000000) = x := ⟨_, rfl⟩
  have e : decide (NumsOk num ver) = (x1 && x2 && x3 && x4) := by
    subst y1 y2 y3 y4
    simp [NumsOk, Bool.and_assoc]
  rw [e]
  clear e
  go_enter Try.func32, Try.ntmps32
  cases x1 <;> (try cases x2) <;> (try cases x3) <;> (try cases x4) <;>
  · go_wp2
    go_ret
    exact ⟨rfl, rfl⟩

theorem keyOk_none {op : Int} {n : Nat} (h : op = 12 ∨ op = 13) : (keyOk op n ∧ n ≤ 60) ↔ n = 0 := by
  unfold keyOk
  rw [if_neg (by omega), if_pos h]
  omega
theorem keyOk_scan {n : Nat} : (keyOk 11 n ∧ n ≤ 60) ↔ (n : Int) ≤ 60 := by
  unfold keyOk
  rw [if_pos rfl]
  simp
  omega
theorem keyOk_other {op : Int} {n : Nat} (h1 : ¬ op = 11) (h : ¬ (op = 12 ∨ op = 13)) : (keyOk op n ∧ n ≤ 60) ↔ (1 ≤ n ∧ n ≤ 60) := by
  unfold keyOk
  rw [if_neg h1, if_neg h]
theorem empty_list : (⟨#[]⟩ : ByteArray).toList.isEmpty = true := by rw [ByteArray.toList_eq]; rfl
theorem str_empty_dec (k : ByteArray) : decide (k = ByteArray.empty) = decide (k.size = 0) := decide_eq_decide.2 ⟨fun h => by rw [h]; rfl, fun h => str_none k h⟩
theorem command_isKey (op : Int) (k : ByteArray) (w : World) (hk : k.size ≤ maxLen) : Calls Try.prog 31 #[.int .i64 op, .string k] w fun e w' => e = .returned (.bool (decide (keyOk op k.size ∧ k.size ≤ 60))) ∧ w = w' := by
  have he : k.toList.isEmpty = decide (k.size = 0) := by
    by_cases h : k.size = 0
    · rw [decide_eq_true h, str_none k h]; exact empty_list
    · rw [decide_eq_false h]
      exact str_full k (fun e => h (by rw [e]; rfl))
  by_cases h12 : op = 12
  · subst h12
    have e : decide (keyOk 12 k.size ∧ k.size ≤ 60) = decide (k.size = 0) := decide_eq_decide.2 (keyOk_none (by decide))
    rw [e]
    go_enter Try.func31, Try.ntmps31
    go_wp2
    go_ret
    exact ⟨ret_bool (str_empty_dec k), rfl⟩
  by_cases h13 : op = 13
  · subst h13
    have e : decide (keyOk 13 k.size ∧ k.size ≤ 60) = decide (k.size = 0) := decide_eq_decide.2 (keyOk_none (by decide))
    rw [e]
    go_enter Try.func31, Try.ntmps31
    go_wp2
    go_ret
    exact ⟨ret_bool (str_empty_dec k), rfl⟩
  by_cases h11 : op = 11
  · subst h11
    have e : decide (keyOk 11 k.size ∧ k.size ≤ 60) = decide ((k.size : Int) ≤ 60) := decide_eq_decide.2 keyOk_scan
    rw [e]
    go_enter Try.func31, Try.ntmps31
    go_wp2
    go_ret
    exact ⟨rfl, rfl⟩
  have b12 : (op == 12) = false := by simpa using h12
  have b13 : (op == 13) = false := by simpa using h13
  have b11 : (op == 11) = false := by simpa using h11
  by_cases h0 : k.size = 0
  · have e : decide (keyOk op k.size ∧ k.size ≤ 60) = false := decide_eq_false (by rw [keyOk_other h11 (by omega)]; omega)
    rw [e]
    rw [decide_eq_true h0] at he
    clear e h11 h12 h13
    go_enter Try.func31, Try.ntmps31
    go_wp2
    go_ret
    exact ⟨rfl, rfl⟩
  · have e : decide (keyOk op k.size ∧ k.size ≤ 60) = decide ((k.size : Int) ≤ 60) := decide_eq_decide.2 (by rw [keyOk_other h11 (by omega)]; omega)
    rw [e]
    rw [decide_eq_false h0] at he
    clear e h11 h12 h13
    go_enter Try.func31, Try.ntmps31
    go_wp2
    go_ret
    exact ⟨rfl, rfl⟩

theorem classN_in (op : Int) (h : IsOp op) : op = 1 ∨ op = 2 ∨ op = 3 ∨ op = 4 ∨ op = 5 ∨ op = 6 ∨ op = 7 ∨ op = 8 ∨ op = 9 ∨ op = 10 ∨ op = 11 ∨ op = 12 ∨ op = 13 := by unfold IsOp at h; omega
theorem classN_out (op : Int) (h : ¬ IsOp op) : classN op = 0 := by
  unfold classN
  unfold IsOp at h
  rw [if_neg (by omega), if_neg (by omega), if_neg (by omega)]
theorem classN_pos (op : Int) : decide (0 < classN op) = decide (IsOp op) := by
  refine decide_eq_decide.2 ?_
  unfold classN IsOp
  split
  · omega
  · split
    · omega
    · split <;> omega

theorem command_class (op : Int) (w : World) : Calls Try.prog 16 #[.int .i64 op] w fun e w' => e = .returned (.int .i64 (classN op)) ∧ w = w' := by
  by_cases h : IsOp op
  · go_enter Try.func16, Try.ntmps16
    rcases classN_in op h with rfl | rfl | rfl | rfl | rfl | rfl | rfl | rfl | rfl | rfl | rfl | rfl | rfl <;>
    · go_wp2
      go_ret
      exact ⟨rfl, rfl⟩
  · rw [classN_out op h]
    unfold IsOp at h
    have b1 : (op == 1) = false := by simp; omega
    have b2 : (op == 2) = false := by simp; omega
    have b3 : (op == 3) = false := by simp; omega
    have b4 : (op == 4) = false := by simp; omega
    have b5 : (op == 5) = false := by simp; omega
    have b6 : (op == 6) = false := by simp; omega
    have b7 : (op == 7) = false := by simp; omega
    have b8 : (op == 8) = false := by simp; omega
    have b9 : (op == 9) = false := by simp; omega
    have b10 : (op == 10) = false := by simp; omega
    have b11 : (op == 11) = false := by simp; omega
    have b12 : (op == 12) = false := by simp; omega
    have b13 : (op == 13) = false := by simp; omega
    clear h
    go_enter Try.func16, Try.ntmps16
    go_wp2
    go_ret
    exact ⟨rfl, rfl⟩
theorem ref_class (op : Int) (w : World) : Calls Try.prog 17 #[.int .i64 op] w fun e w' => e = .returned (.int .i64 (classN op)) ∧ w = w' := by
  by_cases h : IsOp op
  · go_enter Try.func17, Try.ntmps17
    rcases classN_in op h with rfl | rfl | rfl | rfl | rfl | rfl | rfl | rfl | rfl | rfl | rfl | rfl | rfl <;>
    · go_wp2
      go_ret
      exact ⟨rfl, rfl⟩
  · rw [classN_out op h]
    unfold IsOp at h
    have b1 : (op == 1) = false := by simp; omega
    have b2 : (op == 2) = false := by simp; omega
    have b3 : (op == 3) = false := by simp; omega
    have b4 : (op == 4) = false := by simp; omega
    have b5 : (op == 5) = false := by simp; omega
    have b6 : (op == 6) = false := by simp; omega
    have b7 : (op == 7) = false := by simp; omega
    have b8 : (op == 8) = false := by simp; omega
    have b9 : (op == 9) = false := by simp; omega
    have b10 : (op == 10) = false := by simp; omega
    have b11 : (op == 11) = false := by simp; omega
    have b12 : (op == 12) = false := by simp; omega
    have b13 : (op == 13) = false := by simp; omega
    clear h
    go_enter Try.func17, Try.ntmps17
    go_wp2
    go_ret
    exact ⟨rfl, rfl⟩
theorem ref_number (v : Int) (w : World) : Calls Try.prog 33 #[.int .i64 v] w fun e w' => e = .returned (.bool (decide (-1000000000000 ≤ v ∧ v ≤ 1000000000000))) ∧ w = w' := by
  obtain ⟨x1, y1⟩ : ∃ x, decide (-1000000000000 ≤ v) = x := ⟨_, rfl⟩
  obtain ⟨x2, y2⟩ : ∃ x, decide (v ≤ 1000000000000) = x := ⟨_, rfl⟩
  have e : decide (-1000000000000 ≤ v ∧ v ≤ 1000000000000) = (x1 && x2) := by
    subst y1 y2
    simp
  rw [e]
  clear e
  go_enter Try.func33, Try.ntmps33
  cases x1 <;> (try cases x2) <;>
  · go_wp2
    go_ret
    exact ⟨rfl, rfl⟩

end Go.Proofs.Ytogfobmbmimpgaa
