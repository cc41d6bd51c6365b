/-
  Package frame: the small contracts.
-/
import Derived.Test.YtkjdklicgbjkpaaFra3
import Derived.Test.YtkjdklicgbjkpaaOct2
import Derived.Laws.LoneSync
namespace Go.Proofs.Ytkjdklicgbjkpaa
open Go.RowKit
set_option linter.unusedVariables false
set_option maxRecDepth 100000
set_option linter.unusedSimpArgs false

theorem i64_add (a : Addr) (x y : Int) (w : World) (hc : w.cell? a = some (.int .i64 x)) (hz : w.frozen? a = false) :
    Calls Try.prog 58 #[.pointer (some a), .int .i64 y] w fun e w' => e = .returned (.int .i64 (IntKind.i64.wrap (x + y))) ∧ w' = w.setCell a (.int .i64 (IntKind.i64.wrap (x + y))) := by
  have hadd : (Op.intArith .add .i64 x y).run Try.prog w = .ok (.int .i64 (IntKind.i64.wrap (x + y))) w := rfl
  have hl := run_call_add (P := Try.prog) Try.func76 (by kernel_rfl) (by kernel_rfl) (by kernel_rfl) .i64 (by kernel_rfl) hc hz hadd
  clear hadd
  generalize IntKind.i64.wrap (x + y) = s at *
  go_enter Try.func58, Try.ntmps58
  go_wp2
  go_ret
  exact ⟨rfl, rfl⟩
theorem i64_load (a : Addr) (x : Int) (w : World) (hc : w.cell? a = some (.int .i64 x)) :
    Calls Try.prog 19 #[.pointer (some a)] w fun e w' => e = .returned (.int .i64 x) ∧ w = w' := by
  have hl := run_call_load (P := Try.prog) Try.func56 (by kernel_rfl) (by kernel_rfl) (by kernel_rfl) .i64 (by kernel_rfl) hc
  go_enter Try.func19, Try.ntmps19
  go_wp2
  go_ret
  exact ⟨rfl, rfl⟩

/-- A Reader of one block: the bytes that wait, whether it is dead, how many frames came. -/
def RdRow (l : ByteArray) (d : Bool) (x : Int) : List Value := [.string l, .bool d, .int .i64 x]
def RdOne (w : World) (bl : Nat → Prop) (p : Nat) (l : ByteArray) (d : Bool) : Prop := (∀ k, bl k ↔ k = p) ∧ ∃ x : Int, RowIs w p 31 (RdRow l d x)

theorem frame_dead0 (w : World) (p : Nat) (l : ByteArray) (d : Bool) (x : Int) (hr : RowIs w p 31 (RdRow l d x)) : Calls Try.prog 12 #[.pointer (some ⟨p, 0, none⟩)] w fun e w' => e = .returned (.bool d) ∧ w = w' := by
  have c2 : w.cell? ⟨p, 1, none⟩ = some (.bool d) := hr.cellAt rfl
  clear hr
  go_enter Try.func12, Try.ntmps12
  go_wp2
  go_ret
  exact ⟨rfl, rfl⟩
theorem frame_dead (w : World) (bl : Nat → Prop) (p : Nat) (l : ByteArray) (d : Bool) (h : RdOne w bl p l d) : Calls Try.prog 12 #[.pointer (some ⟨p, 0, none⟩)] w fun e w' => e = .returned (.bool d) ∧ ∃ m, w' = w.drewN m := by
  obtain ⟨_, x, hr⟩ := h
  refine (frame_dead0 w p l d x hr).mono fun e w' hh => ?_
  obtain ⟨he, rfl⟩ := hh
  exact ⟨he, 0, rfl⟩
theorem frame_waits (w : World) (bl : Nat → Prop) (p : Nat) (l : ByteArray) (d : Bool) (h : RdOne w bl p l d) : Calls Try.prog 13 #[.pointer (some ⟨p, 0, none⟩)] w fun e w' => e = .returned (.int .i64 (l.size : Int)) ∧ ∃ m, w' = w.drewN m := by
  obtain ⟨_, x, hr⟩ := h
  have c1 : w.cell? ⟨p, 0, none⟩ = some (.string l) := hr.cellAt rfl
  clear hr
  go_enter Try.func13, Try.ntmps13
  go_wp2
  go_ret
  exact ⟨rfl, 0, rfl⟩
theorem frame_deadNil0 (w : World) : Calls Try.prog 12 #[.pointer none] w fun e w' => e = .returned (.bool true) ∧ w = w' := by
  go_enter Try.func12, Try.ntmps12
  go_wp2
  go_ret
  exact ⟨rfl, rfl⟩
theorem frame_deadNil (w : World) : Calls Try.prog 12 #[.pointer none] w fun e w' => e = .returned (.bool true) ∧ Below w.heap.size w w' := by
  refine (frame_deadNil0 w).mono fun e w' hh => ?_
  obtain ⟨he, rfl⟩ := hh
  exact ⟨he, Below.refl _ _⟩
theorem frame_feedNil (w : World) (b : ByteArray) : Calls Try.prog 10 #[.pointer none, .string b] w fun e w' => ∃ v, OwnT w' w.heap.size v [] ∧ e = .returned (.tuple #[v, .bool false]) ∧ Below w.heap.size w w' := by
  have PD := frame_deadNil0
  go_enter Try.func10, Try.ntmps10
  go_wp2_with fail
  with_reducible refine (PD _).mono ?_
  rintro e w' ⟨rfl, rfl⟩
  go_wp2
  go_ret2
  exact ⟨_, World.ownsRow_nil _ _ _ _, rfl, Below.refl _ _⟩
theorem frame_waitsNil (w : World) : Calls Try.prog 13 #[.pointer none] w fun e w' => e = .returned (.int .i64 0) ∧ Below w.heap.size w w' := by
  go_enter Try.func13, Try.ntmps13
  go_wp2
  go_ret
  exact ⟨rfl, Below.refl _ _⟩

theorem frame_isLength_yes (n : Nat) (w : World) (h : ¬ (n = 0 ∨ 2200 < n)) : Calls Try.prog 53 #[.int .i64 (n : Int)] w fun e w' => e = .returned (.bool true) ∧ w = w' := by
  have d1 : decide (1 ≤ (n : Int)) = true := decide_eq_true (by omega)
  have d2 : decide ((n : Int) ≤ 2200) = true := decide_eq_true (by omega)
  clear h
  go_enter Try.func53, Try.ntmps53
  go_wp2
  go_ret
  exact ⟨rfl, rfl⟩
theorem frame_isLength_no (n : Nat) (w : World) (h : n = 0 ∨ 2200 < n) : Calls Try.prog 53 #[.int .i64 (n : Int)] w fun e w' => e = .returned (.bool false) ∧ w = w' := by
  rcases h with h | h
  · have d1 : decide (1 ≤ (n : Int)) = false := decide_eq_false (by omega)
    clear h
    go_enter Try.func53, Try.ntmps53
    go_wp2
    go_ret
    exact ⟨rfl, rfl⟩
  · have d1 : decide (1 ≤ (n : Int)) = true := decide_eq_true (by omega)
    have d2 : decide ((n : Int) ≤ 2200) = false := decide_eq_false (by omega)
    clear h
    go_enter Try.func53, Try.ntmps53
    go_wp2
    go_ret
    exact ⟨rfl, rfl⟩
theorem frame_length (t : ByteArray) (w : World) (h2 : 2 ≤ t.size) : Calls Try.prog 57 #[.string t] w fun e w' => e = .returned (.int .i64 (headN t : Int)) ∧ w = w' := by
  have d0 : (2 : Int) ≤ (t.size : Int) := by omega
  have hx : (t.extract 0 2).size = 2 := by simp; omega
  have hB := fun w => octet_big (t.extract 0 2) w (by unfold maxLen; omega)
  rw [← headN_is t] at hB
  have PB : Hid _ := hB
  have hh := headN_lt t h2
  clear hB
  generalize headN t = N at *
  go_enter Try.func57, Try.ntmps57
  go_wp2_with fail
  with_reducible refine (PB.out _).mono ?_
  rintro e w' ⟨rfl, rfl⟩
  go_wp2
  go_ret
  exact ⟨rfl, rfl⟩

theorem frame_put (b : ByteArray) (w : World) (hb : b.size ≤ 1000000) :
    Calls Try.prog 17 #[.string b] w fun e w' => e = .returned (.tuple #[.string (putFS b), .bool (putFOk b)]) ∧ Below w.heap.size w w' := by
  by_cases h1 : b.size = 0 ∨ 2200 < b.size
  · obtain ⟨e1, e2⟩ := putFS_no b (by omega)
    have PI : Hid _ := fun w => frame_isLength_no b.size w h1
    rw [e1, e2]
    clear e1 e2 h1
    go_enter Try.func17, Try.ntmps17
    go_wp2_with fail
    with_reducible refine (PI.out _).mono ?_
    rintro e w' ⟨rfl, rfl⟩
    go_wp2
    go_ret2
    exact ⟨rfl, Below.refl _ _⟩
  · have h2 : b.size ≤ 2200 := by omega
    have PI : Hid _ := fun w => frame_isLength_yes b.size w h1
    have e := putFS_yes b (by omega) h2
    have P1 : Hid _ := fun w => octet_putBig (b.size : Int) 2 w (by omega) (by omega)
    have HS : Hid (putBigS (b.size : Int) 2 ++ b = putFS b ∧ true = putFOk b) := ⟨putFS_cat b (by omega) h2, e.1.symm⟩
    have z1 : (putBigS (b.size : Int) 2).size = 2 := by rw [putBigS, str_size, putBig2_len]
    clear e h1
    generalize putBigS (b.size : Int) 2 = H at *
    go_enter Try.func17, Try.ntmps17
    go_wp2_with fail
    with_reducible refine (PI.out _).mono ?_
    rintro e w' ⟨rfl, rfl⟩
    go_wp2_with fail
    with_reducible refine (P1.out _).mono ?_
    rintro e w1 ⟨rfl, b1⟩
    go_wp2
    go_ret2
    exact ⟨ret_sb9 HS.out.1 HS.out.2, b1⟩

theorem two_lt9 {a n : Nat} (h : a < 2 + n) (h2 : 2 ≤ a) : decide ((a : Int) - 2 < (n : Int)) = true := decide_eq_true (by omega)
theorem two_ge9 {a n : Nat} (h : ¬ a < 2 + n) : decide ((a : Int) - 2 < (n : Int)) = false := decide_eq_false (by omega)
/-- The counter's difference: it may run over. -/
theorem wrap_next (x y : Int) (k : Nat) (h : wrap64 (y - x) = (k : Int)) (hk : k ≤ 1000000) : wrap64 (IntKind.i64.wrap (y + 1) - x) = ((k + 1 : Nat) : Int) := by
  rw [IntKind.wrap_i64]
  unfold wrap64 at *
  omega
theorem wrap_same (x : Int) : wrap64 (x - x) = ((0 : Nat) : Int) := by
  unfold wrap64
  omega
theorem frames_cons (t f : ByteArray) (r : List ByteArray) (h : framesS t = f :: r) : 2 ≤ t.size ∧ ¬ (headN t = 0 ∨ 2200 < headN t) ∧ ¬ t.size < 2 + headN t ∧ f = t.extract 2 (2 + headN t) ∧ r = framesS (t.extract (2 + headN t) t.size) ∧ leftS t = leftS (t.extract (2 + headN t) t.size) ∧ deadS t = deadS (t.extract (2 + headN t) t.size) := by
  by_cases h2 : t.size < 2
  · rw [(frames_short t h2).1] at h; cases h
  · by_cases hb : headN t = 0 ∨ 2200 < headN t
    · rw [(frames_bad t (by omega) hb).1] at h; cases h
    · by_cases hp : t.size < 2 + headN t
      · rw [(frames_part t (by omega) hb hp).1] at h; cases h
      · obtain ⟨e1, e2, e3⟩ := frames_full t (by omega) hb hp
        rw [e1] at h
        obtain ⟨q1, q2⟩ := List.cons.inj h
        exact ⟨by omega, hb, hp, q1.symm, q2.symm, e2, e3⟩
theorem frames_none (t : ByteArray) (h : framesS t = []) : leftS t = if deadS t then ⟨#[]⟩ else t := by
  by_cases h2 : t.size < 2
  · obtain ⟨_, e1, e2⟩ := frames_short t h2
    rw [e1, e2]; rfl
  · by_cases hb : headN t = 0 ∨ 2200 < headN t
    · obtain ⟨_, e1, e2⟩ := frames_bad t (by omega) hb
      rw [e1, e2]; rfl
    · by_cases hp : t.size < 2 + headN t
      · obtain ⟨_, e1, e2⟩ := frames_part t (by omega) hb hp
        rw [e1, e2]; rfl
      · rw [(frames_full t (by omega) hb hp).1] at h; cases h
theorem take_set (A : List ByteArray) (z : ByteArray) (k : Nat) (x : ByteArray) (r : List ByteArray) (h : A.drop k = x :: r) : (A.take k ++ List.replicate (A.length - k) z).set k x = A.take (k + 1) ++ List.replicate (A.length - (k + 1)) z := by
  have hk : k < A.length := by
    apply Nat.lt_of_not_le; intro hn
    rw [List.drop_of_length_le hn] at h; cases h
  have hx : A[k]? = some x := by rw [← List.head?_drop, h]; rfl
  obtain ⟨m, hm⟩ : ∃ m, A.length - k = m + 1 := ⟨A.length - k - 1, by omega⟩
  have hm2 : A.length - (k + 1) = m := by omega
  have hl : (A.take k).length = k := by rw [List.length_take]; omega
  rw [hm, hm2, List.replicate_succ, List.set_append_right _ _ (by omega), hl, Nat.sub_self, List.set_cons_zero, List.take_add_one, hx]
  simp
theorem madeT (n : Nat) : (madeCells #[.string ⟨#[]⟩] n).toList = cellsT (List.replicate n ⟨#[]⟩) := by
  rw [toList_madeCells_one]
  simp [cellsT]
theorem row_madeT (w : World) (n : Nat) (l : List ByteArray) (hl : l = List.replicate n ⟨#[]⟩) : RowIs (w.alloc (.cells (madeCells #[.string ⟨#[]⟩] n) 9)) w.heap.size 9 (cellsT l) := by
  have e : madeCells #[.string ⟨#[]⟩] n = (cellsT l).toArray := Array.toList_inj.1 (by rw [madeT, hl])
  rw [e]
  exact RowIs.new w _ _

end Go.Proofs.Ytkjdklicgbjkpaa
