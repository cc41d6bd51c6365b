/-
  The operations' names: made once within a call; the reference's.
-/
import Derived.Test.YtogfobmbmimpgaaOnce1
import Derived.Test.YtogfobmbmimpgaaCom3
import Derived.Test.YtogfobmbmimpgaaRowT
import Derived.Test.YtogfobmbmimpgaaShf0
namespace Go.Proofs.Ytogfobmbmimpgaa
open Go.RowKit
set_option linter.unusedVariables false
set_option maxRecDepth 100000
set_option linter.unusedSimpArgs false

theorem strings_clone10 (s : ByteArray) (w : World) (hs : s.size ≤ 1000000) : Calls Try.prog 28 #[.string s] w fun e w' => e = .returned (.string s) ∧ Below w.heap.size w w' := by
  go_enter Try.func28, Try.ntmps28
  go_wp2_with fail
  refine (Try.stringslite_Clone s _ (by omega)).mono ?_
  rintro e w' ⟨rfl, b⟩
  go_wp2
  go_ret
  exact ⟨rfl, b⟩

theorem frozen_alloc10 {w : World} {g j : Nat} (h : w.frozen? ⟨g, j, none⟩ = false) (hg : g < w.heap.size) (ob : Obj) : (w.alloc ob).frozen? ⟨g, j, none⟩ = false := by
  rw [World.frozen?_of_block (a := ⟨g, j, none⟩) (Below.heap_alloc w ob g hg)]
  exact h
/-- The names of a call that has not asked for them yet; that has. -/
def nmNew : List Value := [.int .u32 0, .int .i32 0, .int .u32 0, .slice none 0 0]
def nmDone (h : Nat) : List Value := [.int .u32 1, .int .i32 0, .int .u32 0, .slice (some ⟨h, 0, none⟩) 14 14]
structure Nm (w : World) (g h : Nat) : Prop where
  obj : RowIs w g 67 (nmDone h)
  row : RowIs w h 9 (cellsT nameL)

theorem names_clo (p g : Nat) (x : Value) (w : World) (hp : w.cell? ⟨p, 0, none⟩ = some (.pointer (some ⟨g, 0, none⟩))) (hc : w.cell? ⟨g, 3, none⟩ = some x) (hf : w.frozen? ⟨g, 3, none⟩ = false) :
    Calls Try.prog 44 #[.pointer (some ⟨p, 0, none⟩)] w fun e w' => e = .returned (.tuple #[]) ∧ w' = (w.alloc (.cells #[.string ⟨#[]⟩, .string ⟨#[103, 101, 116]⟩, .string ⟨#[115, 101, 116]⟩, .string ⟨#[97, 100, 100]⟩, .string ⟨#[114, 101, 112, 108, 97, 99, 101]⟩, .string ⟨#[100, 101, 108]⟩, .string ⟨#[99, 97, 115]⟩, .string ⟨#[105, 110, 99, 114]⟩, .string ⟨#[97, 112, 112, 101, 110, 100]⟩, .string ⟨#[116, 111, 117, 99, 104]⟩, .string ⟨#[116, 116, 108]⟩, .string ⟨#[115, 99, 97, 110]⟩, .string ⟨#[102, 108, 117, 115, 104]⟩, .string ⟨#[115, 116, 97, 116, 115]⟩] 9)).setCell ⟨g, 3, none⟩ (.slice (some ⟨w.heap.size, 0, none⟩) 14 14) := by
  have hca := cell_alloc9 hc
  have hfa := frozen_alloc10 hf (World.block_lt_of_cell? w ⟨g, 3, none⟩ hc)
  go_enter Try.func44, Try.ntmps44
  go_wp2
  go_end0
  exact ⟨rfl, rfl⟩
theorem callFunc_names (p : Value) (w : World) : (callFunc 44 (#[] ++ #[p])).run Try.prog w = .ok (.enter 44 #[p]) w := by
  simp [go_sem]

theorem names_list_first (g base : Nat) (w : World) (hb : base ≤ g) (r1 : RowIs w g 67 nmNew) :
    Calls Try.prog 34 #[.pointer (some ⟨g, 0, none⟩)] w fun e w' => (∃ h, Nm w' g h ∧ base ≤ h ∧ e = .returned (.slice (some ⟨h, 0, none⟩) 14 14)) ∧ Below base w w' := by
  have hlt := r1.lt
  have rp := RowIs.new w 79 [.pointer (some ⟨g, 0, none⟩)]
  have r2 := r1.alloc (.cells #[.pointer (some ⟨g, 0, none⟩)] 79)
  have b2 : Below base w (w.alloc (.cells #[.pointer (some ⟨g, 0, none⟩)] 79)) := (Below.refl _ _).alloc (by omega) _
  have hz : (w.alloc (.cells #[.pointer (some ⟨g, 0, none⟩)] 79)).heap.size = w.heap.size + 1 := by simp
  go_enter Try.func34, Try.ntmps34
  go_wp2_with fail
  generalize hp : w.heap.size = p at *
  rw [show (#[Value.pointer (some ⟨g, 0, none⟩)] : Array Value) = [Value.pointer (some ⟨g, 0, none⟩)].toArray from rfl] at *
  generalize w.alloc (.cells [Value.pointer (some ⟨g, 0, none⟩)].toArray 79) = w2 at *
  have r2' := r2.set 1 (.int .i32 1)
  have rp' : RowIs (w2.setCell ⟨g, 1, none⟩ (.int .i32 1)) p 79 [.pointer (some ⟨g, 0, none⟩)] := rp.setOther (by simp; omega) _
  have b2' : Below base w (w2.setCell ⟨g, 1, none⟩ (.int .i32 1)) := b2.setCell hb _
  have hz' : (w2.setCell ⟨g, 1, none⟩ (.int .i32 1)).heap.size = p + 1 := by simpa [World.setCell] using hz
  have hclo := names_clo p g _ _ (rp'.cellAt rfl) (r2'.cellAt rfl) (r2'.frozen 3)
  rw [hz'] at hclo
  refine (once_first g 0 44 #[] #[.pointer (some ⟨p, 0, none⟩)] #[.pointer (some ⟨p, 0, none⟩)] (fun w' => RowIs w' g 67 [.int .u32 0, .int .i32 1, .int .u32 0, .slice (some ⟨p + 1, 0, none⟩) 14 14] ∧ RowIs w' p 79 [.pointer (some ⟨g, 0, none⟩)] ∧ RowIs w' (p + 1) 9 (cellsT nameL) ∧ Below base w w') w2 (fun w' => callFunc_names _ w') (r2.cellAt rfl) (r2.cellAt rfl) (r2.frozen 0) (r2.frozen 1) ?_).mono ?_
  · refine hclo.mono ?_
    rintro e w' ⟨rfl, rfl⟩
    have q1 := (r2'.alloc (.cells #[.string ⟨#[]⟩, .string ⟨#[103, 101, 116]⟩, .string ⟨#[115, 101, 116]⟩, .string ⟨#[97, 100, 100]⟩, .string ⟨#[114, 101, 112, 108, 97, 99, 101]⟩, .string ⟨#[100, 101, 108]⟩, .string ⟨#[99, 97, 115]⟩, .string ⟨#[105, 110, 99, 114]⟩, .string ⟨#[97, 112, 112, 101, 110, 100]⟩, .string ⟨#[116, 111, 117, 99, 104]⟩, .string ⟨#[116, 116, 108]⟩, .string ⟨#[115, 99, 97, 110]⟩, .string ⟨#[102, 108, 117, 115, 104]⟩, .string ⟨#[115, 116, 97, 116, 115]⟩] 9)).set 3 (.slice (some ⟨p + 1, 0, none⟩) 14 14)
    have q2 := (rp'.alloc (.cells #[.string ⟨#[]⟩, .string ⟨#[103, 101, 116]⟩, .string ⟨#[115, 101, 116]⟩, .string ⟨#[97, 100, 100]⟩, .string ⟨#[114, 101, 112, 108, 97, 99, 101]⟩, .string ⟨#[100, 101, 108]⟩, .string ⟨#[99, 97, 115]⟩, .string ⟨#[105, 110, 99, 114]⟩, .string ⟨#[97, 112, 112, 101, 110, 100]⟩, .string ⟨#[116, 111, 117, 99, 104]⟩, .string ⟨#[116, 116, 108]⟩, .string ⟨#[115, 99, 97, 110]⟩, .string ⟨#[102, 108, 117, 115, 104]⟩, .string ⟨#[115, 116, 97, 116, 115]⟩] 9)).setOther (a := ⟨g, 3, none⟩) (by simp; omega) (.slice (some ⟨p + 1, 0, none⟩) 14 14)
    have q3 := RowIs.new (w2.setCell ⟨g, 1, none⟩ (.int .i32 1)) 9 (cellsT nameL)
    rw [hz'] at q3
    have q4 := q3.setOther (a := ⟨g, 3, none⟩) (by simp; omega) (.slice (some ⟨p + 1, 0, none⟩) 14 14)
    exact ⟨rfl, q1.cellAt rfl, q1.cellAt rfl, q1.frozen 0, q1.frozen 1, q1, q2, q4, (b2'.alloc (by rw [hz']; omega) _).setCell hb _⟩
  · rintro e w' ⟨rfl, w4, ⟨q1, q2, q3, q4⟩, rfl⟩
    have s1 : RowIs ((w4.drew.setCell ⟨g, 0, none⟩ (.int .u32 1)).setCell ⟨g, 0 + 1, none⟩ (.int .i32 0)) g 67 (nmDone (p + 1)) := (q1.drew.set 0 (.int .u32 1)).set 1 (.int .i32 0)
    have s2 : RowIs ((w4.drew.setCell ⟨g, 0, none⟩ (.int .u32 1)).setCell ⟨g, 0 + 1, none⟩ (.int .i32 0)) p 79 [.pointer (some ⟨g, 0, none⟩)] := ((q2.drew).setOther (a := ⟨g, 0, none⟩) (by simp; omega) _).setOther (a := ⟨g, 0 + 1, none⟩) (by simp; omega) _
    have s3 : RowIs ((w4.drew.setCell ⟨g, 0, none⟩ (.int .u32 1)).setCell ⟨g, 0 + 1, none⟩ (.int .i32 0)) (p + 1) 9 (cellsT nameL) := ((q3.drew).setOther (a := ⟨g, 0, none⟩) (by simp; omega) _).setOther (a := ⟨g, 0 + 1, none⟩) (by simp; omega) _
    have s4 : Below base w ((w4.drew.setCell ⟨g, 0, none⟩ (.int .u32 1)).setCell ⟨g, 0 + 1, none⟩ (.int .i32 0)) := ((q4.drew).setCell hb _).setCell hb _
    clear q1 q2 q3 q4 r1 r2 rp rp' r2' b2 b2' hz hz' hclo
    generalize (w4.drew.setCell ⟨g, 0, none⟩ (.int .u32 1)).setCell ⟨g, 0 + 1, none⟩ (.int .i32 0) = w5 at *
    have c1 := s2.cellAt (j := 0) rfl
    have c2 : w5.cell? ⟨g, 3, none⟩ = some (.slice (some ⟨p + 1, 0, none⟩) 14 14) := s1.cellAt rfl
    go_wp2
    go_ret
    exact ⟨⟨p + 1, ⟨s1, s3⟩, by omega, rfl⟩, s4⟩


theorem nm_new (w : World) : RowIs (w.alloc (.cells #[.int .u32 0, .int .i32 0, .int .u32 0, .slice none 0 0] 67)) w.heap.size 67 nmNew := RowIs.new w _ _
theorem nameL_cell (k : Nat) (hk : k < 14) : (cellsT nameL)[k]? = some (.string (nameL.getD k ⟨#[]⟩)) := by
  have hc : k = 0 ∨ k = 1 ∨ k = 2 ∨ k = 3 ∨ k = 4 ∨ k = 5 ∨ k = 6 ∨ k = 7 ∨ k = 8 ∨ k = 9 ∨ k = 10 ∨ k = 11 ∨ k = 12 ∨ k = 13 := by omega
  rcases hc with rfl | rfl | rfl | rfl | rfl | rfl | rfl | rfl | rfl | rfl | rfl | rfl | rfl | rfl <;> rfl
theorem nameL_size (k : Nat) : (nameL.getD k ⟨#[]⟩).size ≤ 7 := by
  by_cases hk : k < 14
  · have hc : k = 0 ∨ k = 1 ∨ k = 2 ∨ k = 3 ∨ k = 4 ∨ k = 5 ∨ k = 6 ∨ k = 7 ∨ k = 8 ∨ k = 9 ∨ k = 10 ∨ k = 11 ∨ k = 12 ∨ k = 13 := by omega
    rcases hc with rfl | rfl | rfl | rfl | rfl | rfl | rfl | rfl | rfl | rfl | rfl | rfl | rfl | rfl <;> decide
  · rw [List.getD_eq_getElem?_getD, List.getElem?_eq_none (by simpa [nameL] using hk)]; decide
theorem nameS_out (op : Int) (h : ¬ IsOp op) : nameS op = ⟨#[]⟩ := by
  unfold nameS
  unfold IsOp at h
  split
  · obtain rfl : op = 0 := by omega
    rfl
  · rfl
theorem nameS_in (k : Nat) (h : k ≤ 13) : nameS (k : Int) = nameL.getD k ⟨#[]⟩ := by
  unfold nameS
  rw [if_pos (by omega), Int.toNat_natCast]

theorem command_name (op : Int) (w : World) : Calls Try.prog 18 #[.int .i64 op] w fun e w' => e = .returned (.string (nameS op)) ∧ Below w.heap.size w w' := by
  have PI := fun w => command_isOp op w
  by_cases h : IsOp op
  · rw [decide_eq_true h] at PI
    obtain ⟨k, rfl⟩ : ∃ k : Nat, op = (k : Int) := Int.eq_ofNat_of_zero_le (by unfold IsOp at h; omega)
    have hk : k ≤ 13 := by unfold IsOp at h; omega
    rw [nameS_in k hk]
    have PC : Hid _ := fun w => strings_clone10 (nameL.getD k ⟨#[]⟩) w (by have := nameL_size k; omega)
    have HC : Hid _ := nameL_cell k (by omega)
    generalize nameL.getD k ⟨#[]⟩ = S at *
    have r1 := nm_new w
    have b2 : Below w.heap.size w (w.alloc (.cells #[.int .u32 0, .int .i32 0, .int .u32 0, .slice none 0 0] 67)) := (Below.refl _ _).alloc (Nat.le_refl _) _
    have d1 : (0 : Int) ≤ (k : Int) := by omega
    have d2 : (k : Int) < 14 := by omega
    clear h hk
    go_enter Try.func18, Try.ntmps18
    go_wp2_with fail
    with_reducible refine (PI _).mono ?_
    rintro e w' ⟨rfl, rfl⟩
    go_wp2_with fail
    generalize w.alloc (.cells #[.int .u32 0, .int .i32 0, .int .u32 0, .slice none 0 0] 67) = w2 at *
    refine (names_list_first w.heap.size w.heap.size w2 (Nat.le_refl _) r1).mono ?_
    rintro e w3 ⟨⟨h, hs, hb, rfl⟩, b⟩
    have hcell : w3.cell? ⟨h, k, none⟩ = some (.string S) := RowIs.cellAt hs.row HC.out
    clear hs r1
    replace b := b2.trans b
    clear b2
    go_wp2_with fail
    with_reducible refine (PC.out _).mono ?_
    rintro e w4 ⟨rfl, b4⟩
    go_wp2
    go_ret
    exact ⟨rfl, bel_chain8 b b4⟩
  · rw [decide_eq_false h] at PI
    rw [nameS_out op h]
    clear h
    go_enter Try.func18, Try.ntmps18
    go_wp2_with fail
    with_reducible refine (PI _).mono ?_
    rintro e w' ⟨rfl, rfl⟩
    go_wp2
    go_ret
    exact ⟨rfl, Below.refl _ _⟩

theorem ref_name (op : Int) (w : World) : Calls Try.prog 19 #[.int .i64 op] w fun e w' => e = .returned (.string (nameS op)) ∧ Below w.heap.size w w' := by
  have hbel : ∀ o, Below w.heap.size w (w.alloc o) := fun o => (Below.refl _ _).alloc (Nat.le_refl _) _
  by_cases h0 : op < 0
  · have e1 : nameS op = ⟨#[]⟩ := by unfold nameS; rw [if_neg (by omega)]
    rw [e1]
    have d0 : decide (op < 0) = true := decide_eq_true h0
    clear h0
    go_enter Try.func19, Try.ntmps19
    go_wp2
    go_ret
    exact ⟨rfl, hbel _⟩
  by_cases h1 : 14 ≤ op
  · have e1 : nameS op = ⟨#[]⟩ := by unfold nameS; rw [if_neg (by omega)]
    rw [e1]
    have d0 : decide (op < 0) = false := decide_eq_false h0
    have d1 : decide (14 ≤ op) = true := decide_eq_true h1
    clear h0 h1
    go_enter Try.func19, Try.ntmps19
    go_wp2
    go_ret
    exact ⟨rfl, hbel _⟩
  obtain ⟨k, rfl⟩ : ∃ k : Nat, op = (k : Int) := Int.eq_ofNat_of_zero_le (by omega)
  have hk : k < 14 := by omega
  rw [nameS_in k (by omega)]
  have hcell := (RowIs.new w 9 (cellsT nameL)).cellAt (nameL_cell k hk)
  rw [show (cellsT nameL).toArray = #[.string ⟨#[]⟩, .string ⟨#[103, 101, 116]⟩, .string ⟨#[115, 101, 116]⟩, .string ⟨#[97, 100, 100]⟩, .string ⟨#[114, 101, 112, 108, 97, 99, 101]⟩, .string ⟨#[100, 101, 108]⟩, .string ⟨#[99, 97, 115]⟩, .string ⟨#[105, 110, 99, 114]⟩, .string ⟨#[97, 112, 112, 101, 110, 100]⟩, .string ⟨#[116, 111, 117, 99, 104]⟩, .string ⟨#[116, 116, 108]⟩, .string ⟨#[115, 99, 97, 110]⟩, .string ⟨#[102, 108, 117, 115, 104]⟩, .string ⟨#[115, 116, 97, 116, 115]⟩] from rfl] at hcell
  generalize nameL.getD k ⟨#[]⟩ = S at *
  have d0 : decide ((k : Int) < 0) = false := decide_eq_false h0
  have d1 : decide (14 ≤ (k : Int)) = false := decide_eq_false h1
  have d2 : (0 : Int) ≤ (k : Int) := by omega
  have d3 : (k : Int) < 14 := by omega
  clear h0 h1 hk
  go_enter Try.func19, Try.ntmps19
  go_wp2
  go_ret
  exact ⟨rfl, hbel _⟩

end Go.Proofs.Ytogfobmbmimpgaa
