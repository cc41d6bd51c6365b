/-
  Parts of this proof, one behind the other: Com6, Com7, Com8, Com9, Alive10.
-/
import Derived.Test.YtgcbanmjfnnccaaGreatBun23
import Derived.Test.YtgcbanmjfnnccaaGreatBun17
import Derived.Test.YtgcbanmjfnnccaaGreatBun11
import Derived.Test.YtgcbanmjfnnccaaGreatBun4

/-
  The operations' names: made once within a call; the reference's.
-/
namespace Go.Proofs.YtgcbanmjfnnccaaGreat
open Go.RowKit
set_option linter.unusedVariables false
set_option maxRecDepth 100000
set_option linter.unusedSimpArgs false

theorem strings_clone10 (s : ByteArray) (w : World) (hs : s.size ≤ 1000000) : Calls Tryz.prog 62 #[.string s] w fun e w' => e = .returned (.string s) ∧ Below w.heap.size w w' := by
  go_enter Tryz.func62, Tryz.ntmps62
  go_wp2_with fail
  refine (Tryz.stringslite_Clone s _ (by omega)).mono ?_
  rintro e w' ⟨rfl, b⟩
  go_wp2
  go_ret
  exact ⟨rfl, b⟩

theorem frozen_alloc10 {w : World} {g j : Nat} (h : w.frozen? ⟨g, j, none⟩ = false) (hg : g < w.heap.size) (ob : Obj) : (w.alloc ob).frozen? ⟨g, j, none⟩ = false := by
  rw [World.frozen?_of_block (a := ⟨g, j, none⟩) (Below.heap_alloc w ob g hg)]
  exact h
/-- The names of a call that has not asked for them yet; that has. -/
def nmNew : List Value := [.int .u32 0, .int .i32 0, .int .u32 0, .slice none 0 0]
def nmDone (h : Nat) : List Value := [.int .u32 1, .int .i32 0, .int .u32 0, .slice (some ⟨h, 0, none⟩) 14 14]
structure Nm (w : World) (g h : Nat) : Prop where
  obj : RowIs w g 103 (nmDone h)
  row : RowIs w h 9 (cellsT opNameL)

theorem names_clo (p g : Nat) (x : Value) (w : World) (hp : w.cell? ⟨p, 0, none⟩ = some (.pointer (some ⟨g, 0, none⟩))) (hc : w.cell? ⟨g, 3, none⟩ = some x) (hf : w.frozen? ⟨g, 3, none⟩ = false) :
    Calls Tryz.prog 87 #[.pointer (some ⟨p, 0, none⟩)] w fun e w' => e = .returned (.tuple #[]) ∧ w' = (w.alloc (.cells #[.string ⟨#[]⟩, .string ⟨#[103, 101, 116]⟩, .string ⟨#[115, 101, 116]⟩, .string ⟨#[97, 100, 100]⟩, .string ⟨#[114, 101, 112, 108, 97, 99, 101]⟩, .string ⟨#[100, 101, 108]⟩, .string ⟨#[99, 97, 115]⟩, .string ⟨#[105, 110, 99, 114]⟩, .string ⟨#[97, 112, 112, 101, 110, 100]⟩, .string ⟨#[116, 111, 117, 99, 104]⟩, .string ⟨#[116, 116, 108]⟩, .string ⟨#[115, 99, 97, 110]⟩, .string ⟨#[102, 108, 117, 115, 104]⟩, .string ⟨#[115, 116, 97, 116, 115]⟩] 9)).setCell ⟨g, 3, none⟩ (.slice (some ⟨w.heap.size, 0, none⟩) 14 14) := by
  have hca := cell_alloc9 hc
  have hfa := frozen_alloc10 hf (World.block_lt_of_cell? w ⟨g, 3, none⟩ hc)
  go_enter Tryz.func87, Tryz.ntmps87
  go_wp2
  go_end0
  exact ⟨rfl, rfl⟩
theorem callFunc_names (p : Value) (w : World) : (callFunc 87 (#[] ++ #[p])).run Tryz.prog w = .ok (.enter 87 #[p]) w := by
  simp [go_sem]

theorem names_list_first (g base : Nat) (w : World) (hb : base ≤ g) (r1 : RowIs w g 103 nmNew) :
    Calls Tryz.prog 64 #[.pointer (some ⟨g, 0, none⟩)] w fun e w' => (∃ h, Nm w' g h ∧ base ≤ h ∧ e = .returned (.slice (some ⟨h, 0, none⟩) 14 14)) ∧ Below base w w' := by
  have hlt := r1.lt
  have rp := RowIs.new w 134 [.pointer (some ⟨g, 0, none⟩)]
  have r2 := r1.alloc (.cells #[.pointer (some ⟨g, 0, none⟩)] 134)
  have b2 : Below base w (w.alloc (.cells #[.pointer (some ⟨g, 0, none⟩)] 134)) := (Below.refl _ _).alloc (by omega) _
  have hz : (w.alloc (.cells #[.pointer (some ⟨g, 0, none⟩)] 134)).heap.size = w.heap.size + 1 := by simp
  go_enter Tryz.func64, Tryz.ntmps64
  go_wp2_with fail
  generalize hp : w.heap.size = p at *
  rw [show (#[Value.pointer (some ⟨g, 0, none⟩)] : Array Value) = [Value.pointer (some ⟨g, 0, none⟩)].toArray from rfl] at *
  generalize w.alloc (.cells [Value.pointer (some ⟨g, 0, none⟩)].toArray 134) = w2 at *
  have r2' := r2.set 1 (.int .i32 1)
  have rp' : RowIs (w2.setCell ⟨g, 1, none⟩ (.int .i32 1)) p 134 [.pointer (some ⟨g, 0, none⟩)] := rp.setOther (by simp; omega) _
  have b2' : Below base w (w2.setCell ⟨g, 1, none⟩ (.int .i32 1)) := b2.setCell hb _
  have hz' : (w2.setCell ⟨g, 1, none⟩ (.int .i32 1)).heap.size = p + 1 := by simpa [World.setCell] using hz
  have hclo := names_clo p g _ _ (rp'.cellAt rfl) (r2'.cellAt rfl) (r2'.frozen 3)
  rw [hz'] at hclo
  refine (once_first g 0 87 #[] #[.pointer (some ⟨p, 0, none⟩)] #[.pointer (some ⟨p, 0, none⟩)] (fun w' => RowIs w' g 103 [.int .u32 0, .int .i32 1, .int .u32 0, .slice (some ⟨p + 1, 0, none⟩) 14 14] ∧ RowIs w' p 134 [.pointer (some ⟨g, 0, none⟩)] ∧ RowIs w' (p + 1) 9 (cellsT opNameL) ∧ Below base w w') w2 (fun w' => callFunc_names _ w') (r2.cellAt rfl) (r2.cellAt rfl) (r2.frozen 0) (r2.frozen 1) ?_).mono ?_
  · refine hclo.mono ?_
    rintro e w' ⟨rfl, rfl⟩
    have q1 := (r2'.alloc (.cells #[.string ⟨#[]⟩, .string ⟨#[103, 101, 116]⟩, .string ⟨#[115, 101, 116]⟩, .string ⟨#[97, 100, 100]⟩, .string ⟨#[114, 101, 112, 108, 97, 99, 101]⟩, .string ⟨#[100, 101, 108]⟩, .string ⟨#[99, 97, 115]⟩, .string ⟨#[105, 110, 99, 114]⟩, .string ⟨#[97, 112, 112, 101, 110, 100]⟩, .string ⟨#[116, 111, 117, 99, 104]⟩, .string ⟨#[116, 116, 108]⟩, .string ⟨#[115, 99, 97, 110]⟩, .string ⟨#[102, 108, 117, 115, 104]⟩, .string ⟨#[115, 116, 97, 116, 115]⟩] 9)).set 3 (.slice (some ⟨p + 1, 0, none⟩) 14 14)
    have q2 := (rp'.alloc (.cells #[.string ⟨#[]⟩, .string ⟨#[103, 101, 116]⟩, .string ⟨#[115, 101, 116]⟩, .string ⟨#[97, 100, 100]⟩, .string ⟨#[114, 101, 112, 108, 97, 99, 101]⟩, .string ⟨#[100, 101, 108]⟩, .string ⟨#[99, 97, 115]⟩, .string ⟨#[105, 110, 99, 114]⟩, .string ⟨#[97, 112, 112, 101, 110, 100]⟩, .string ⟨#[116, 111, 117, 99, 104]⟩, .string ⟨#[116, 116, 108]⟩, .string ⟨#[115, 99, 97, 110]⟩, .string ⟨#[102, 108, 117, 115, 104]⟩, .string ⟨#[115, 116, 97, 116, 115]⟩] 9)).setOther (a := ⟨g, 3, none⟩) (by simp; omega) (.slice (some ⟨p + 1, 0, none⟩) 14 14)
    have q3 := RowIs.new (w2.setCell ⟨g, 1, none⟩ (.int .i32 1)) 9 (cellsT opNameL)
    rw [hz'] at q3
    have q4 := q3.setOther (a := ⟨g, 3, none⟩) (by simp; omega) (.slice (some ⟨p + 1, 0, none⟩) 14 14)
    exact ⟨rfl, q1.cellAt rfl, q1.cellAt rfl, q1.frozen 0, q1.frozen 1, q1, q2, q4, (b2'.alloc (by rw [hz']; omega) _).setCell hb _⟩
  · rintro e w' ⟨rfl, w4, ⟨q1, q2, q3, q4⟩, rfl⟩
    have s1 : RowIs ((w4.drew.setCell ⟨g, 0, none⟩ (.int .u32 1)).setCell ⟨g, 0 + 1, none⟩ (.int .i32 0)) g 103 (nmDone (p + 1)) := (q1.drew.set 0 (.int .u32 1)).set 1 (.int .i32 0)
    have s2 : RowIs ((w4.drew.setCell ⟨g, 0, none⟩ (.int .u32 1)).setCell ⟨g, 0 + 1, none⟩ (.int .i32 0)) p 134 [.pointer (some ⟨g, 0, none⟩)] := ((q2.drew).setOther (a := ⟨g, 0, none⟩) (by simp; omega) _).setOther (a := ⟨g, 0 + 1, none⟩) (by simp; omega) _
    have s3 : RowIs ((w4.drew.setCell ⟨g, 0, none⟩ (.int .u32 1)).setCell ⟨g, 0 + 1, none⟩ (.int .i32 0)) (p + 1) 9 (cellsT opNameL) := ((q3.drew).setOther (a := ⟨g, 0, none⟩) (by simp; omega) _).setOther (a := ⟨g, 0 + 1, none⟩) (by simp; omega) _
    have s4 : Below base w ((w4.drew.setCell ⟨g, 0, none⟩ (.int .u32 1)).setCell ⟨g, 0 + 1, none⟩ (.int .i32 0)) := ((q4.drew).setCell hb _).setCell hb _
    clear q1 q2 q3 q4 r1 r2 rp rp' r2' b2 b2' hz hz' hclo
    generalize (w4.drew.setCell ⟨g, 0, none⟩ (.int .u32 1)).setCell ⟨g, 0 + 1, none⟩ (.int .i32 0) = w5 at *
    have c1 := s2.cellAt (j := 0) rfl
    have c2 : w5.cell? ⟨g, 3, none⟩ = some (.slice (some ⟨p + 1, 0, none⟩) 14 14) := s1.cellAt rfl
    go_wp2
    go_ret
    exact ⟨⟨p + 1, ⟨s1, s3⟩, by omega, rfl⟩, s4⟩


theorem nm_new (w : World) : RowIs (w.alloc (.cells #[.int .u32 0, .int .i32 0, .int .u32 0, .slice none 0 0] 103)) w.heap.size 103 nmNew := RowIs.new w _ _
theorem opNameL_cell (k : Nat) (hk : k < 14) : (cellsT opNameL)[k]? = some (.string (opNameL.getD k ⟨#[]⟩)) := by
  have hc : k = 0 ∨ k = 1 ∨ k = 2 ∨ k = 3 ∨ k = 4 ∨ k = 5 ∨ k = 6 ∨ k = 7 ∨ k = 8 ∨ k = 9 ∨ k = 10 ∨ k = 11 ∨ k = 12 ∨ k = 13 := by omega
  rcases hc with rfl | rfl | rfl | rfl | rfl | rfl | rfl | rfl | rfl | rfl | rfl | rfl | rfl | rfl <;> rfl
theorem opNameL_size (k : Nat) : (opNameL.getD k ⟨#[]⟩).size ≤ 7 := by
  by_cases hk : k < 14
  · have hc : k = 0 ∨ k = 1 ∨ k = 2 ∨ k = 3 ∨ k = 4 ∨ k = 5 ∨ k = 6 ∨ k = 7 ∨ k = 8 ∨ k = 9 ∨ k = 10 ∨ k = 11 ∨ k = 12 ∨ k = 13 := by omega
    rcases hc with rfl | rfl | rfl | rfl | rfl | rfl | rfl | rfl | rfl | rfl | rfl | rfl | rfl | rfl <;> decide
  · rw [List.getD_eq_getElem?_getD, List.getElem?_eq_none (by simpa [opNameL] using hk)]; decide
theorem opNameS_out (op : Int) (h : ¬ IsOp op) : opNameS op = ⟨#[]⟩ := by
  unfold opNameS
  unfold IsOp at h
  split
  · obtain rfl : op = 0 := by omega
    rfl
  · rfl
theorem opNameS_in (k : Nat) (h : k ≤ 13) : opNameS (k : Int) = opNameL.getD k ⟨#[]⟩ := by
  unfold opNameS
  rw [if_pos (by omega), Int.toNat_natCast]

theorem command_name (op : Int) (w : World) : Calls Tryz.prog 17 #[.int .i64 op] w fun e w' => e = .returned (.string (opNameS op)) ∧ Below w.heap.size w w' := by
  have PI := fun w => command_isOp op w
  by_cases h : IsOp op
  · rw [decide_eq_true h] at PI
    obtain ⟨k, rfl⟩ : ∃ k : Nat, op = (k : Int) := Int.eq_ofNat_of_zero_le (by unfold IsOp at h; omega)
    have hk : k ≤ 13 := by unfold IsOp at h; omega
    rw [opNameS_in k hk]
    have PC : Hid _ := fun w => strings_clone10 (opNameL.getD k ⟨#[]⟩) w (by have := opNameL_size k; omega)
    have HC : Hid _ := opNameL_cell k (by omega)
    generalize opNameL.getD k ⟨#[]⟩ = S at *
    have r1 := nm_new w
    have b2 : Below w.heap.size w (w.alloc (.cells #[.int .u32 0, .int .i32 0, .int .u32 0, .slice none 0 0] 103)) := (Below.refl _ _).alloc (Nat.le_refl _) _
    have d1 : (0 : Int) ≤ (k : Int) := by omega
    have d2 : (k : Int) < 14 := by omega
    clear h hk
    go_enter Tryz.func17, Tryz.ntmps17
    go_wp2_with fail
    with_reducible refine (PI _).mono ?_
    rintro e w' ⟨rfl, rfl⟩
    go_wp2_with fail
    generalize w.alloc (.cells #[.int .u32 0, .int .i32 0, .int .u32 0, .slice none 0 0] 103) = w2 at *
    refine (names_list_first w.heap.size w.heap.size w2 (Nat.le_refl _) r1).mono ?_
    rintro e w3 ⟨⟨h, hs, hb, rfl⟩, b⟩
    have hcell : w3.cell? ⟨h, k, none⟩ = some (.string S) := RowIs.cellAt hs.row HC.out
    clear hs r1
    replace b := b2.trans b
    clear b2
    go_wp2_with fail
    with_reducible refine (PC.out _).mono ?_
    rintro e w4 ⟨rfl, b4⟩
    go_wp2
    go_ret
    exact ⟨rfl, bel_chain8 b b4⟩
  · rw [decide_eq_false h] at PI
    rw [opNameS_out op h]
    clear h
    go_enter Tryz.func17, Tryz.ntmps17
    go_wp2_with fail
    with_reducible refine (PI _).mono ?_
    rintro e w' ⟨rfl, rfl⟩
    go_wp2
    go_ret
    exact ⟨rfl, Below.refl _ _⟩

end Go.Proofs.YtgcbanmjfnnccaaGreat

/-
  The contracts of package command's parts: bytes taken apart from their beginning on.
-/
namespace Go.Proofs.YtgcbanmjfnnccaaGreat
open Go.RowKit
set_option linter.unusedVariables false
set_option maxRecDepth 100000
set_option linter.unusedSimpArgs false

def tkV (s : ByteArray) (n : Nat) : ByteArray := if n ≤ s.size then s.extract 0 n else ⟨#[]⟩
def tkR (s : ByteArray) (n : Nat) : ByteArray := if n ≤ s.size then s.extract n s.size else s
def tkB (s : ByteArray) (b : Bool) (n : Nat) : Bool := if n ≤ s.size then b else true
def valN (s : ByteArray) (n : Nat) : Nat := (numOf (tkV s n).data.toList).toNat
def nmN (s : ByteArray) (n : Nat) : Nat := if 2000000000000 < valN s n then 0 else valN s n
def nmB (s : ByteArray) (b : Bool) (n : Nat) : Bool := if 2000000000000 < valN s n then true else tkB s b n
theorem tkV_size (s : ByteArray) (n : Nat) : (tkV s n).size ≤ n := by
  unfold tkV
  split
  · rw [ByteArray.size_extract]; omega
  · exact Nat.zero_le _
theorem tkV_le (s : ByteArray) (n : Nat) : (tkV s n).size ≤ s.size := by
  unfold tkV
  split
  · rw [ByteArray.size_extract]; omega
  · exact Nat.zero_le _
theorem tkR_le (s : ByteArray) (n : Nat) : (tkR s n).size ≤ s.size := by
  unfold tkR
  split
  · rw [ByteArray.size_extract]; omega
  · exact Nat.le_refl _
theorem nmN_le (s : ByteArray) (n : Nat) : nmN s n ≤ 2000000000000 := by
  unfold nmN
  split <;> omega
theorem bigS_small (s : ByteArray) (h : s.size ≤ 8) : bigS s = numOf s.data.toList := by
  unfold bigS
  rw [show s.size - 8 = 0 by omega, List.drop_zero]
theorem valN_is (s : ByteArray) (n : Nat) (h : n ≤ 8) : (bigS (tkV s n) : Int) = (valN s n : Int) ∧ valN s n < 18446744073709551616 := by
  have h1 := tkV_size s n
  have h2 := bigS_bd (tkV s n)
  rw [bigS_small _ (by omega)] at h2 ⊢
  unfold valN
  omega

/-- Bytes that are taken apart: what is left, and whether a part was cut short. -/
def PartsIs (w : World) (p : Nat) (s : ByteArray) (b : Bool) : Prop := RowIs w p 69 [.string s, .bool b]
theorem slice_head10 (s : ByteArray) (n : Nat) (w : World) (h : n ≤ s.size) : (Instr.slice 9 (.string s) none (some (.int .i64 (n : Int))) none).run Tryz.prog w = .ok (.string (s.extract 0 n)) w := by
  have h1 := run_slice_string_h (P := Tryz.prog) (w := w) (t := 9) (s := s) Tryz.underlying9 .i64 (n : Int) (by omega) (by omega)
  rw [Int.toNat_natCast] at h1
  exact h1

theorem command_take (p : Nat) (s : ByteArray) (b : Bool) (n : Nat) (w : World) (hr : PartsIs w p s b) (hs : s.size ≤ 1000000) :
    Calls Tryz.prog 70 #[.pointer (some ⟨p, 0, none⟩), .int .i64 (n : Int)] w fun e w' => e = .returned (.string (tkV s n)) ∧ PartsIs w' p (tkR s n) (tkB s b n) ∧ Upon p w w' := by
  have c0 : w.cell? ⟨p, 0, none⟩ = some (.string s) := RowIs.cellAt hr rfl
  have c1 : w.cell? ⟨p, 1, none⟩ = some (.bool b) := RowIs.cellAt hr rfl
  have f0 : w.frozen? ⟨p, 0, none⟩ = false := RowIs.frozen hr 0
  have f1 : w.frozen? ⟨p, 1, none⟩ = false := RowIs.frozen hr 1
  have hu := Upon.refl p w
  by_cases h : n ≤ s.size
  · unfold tkV tkR tkB
    rw [if_pos h, if_pos h, if_pos h]
    have r1 : Hid (PartsIs (w.setCell ⟨p, 0, none⟩ (.string (s.extract n s.size))) p (s.extract n s.size) b) := RowIs.set hr 0 _
    have d0 : decide ((s.size : Int) < (n : Int)) = false := decide_eq_false (by omega)
    have d1 : (0 : Int) ≤ (n : Int) := by omega
    have d2 : (n : Int) ≤ (s.size : Int) := by omega
    clear h
    go_enter Tryz.func70, Tryz.ntmps70
    go_wp2
    go_ret
    exact ⟨rfl, r1.out, hu.setCell 0 _⟩
  · unfold tkV tkR tkB
    rw [if_neg h, if_neg h, if_neg h]
    have r1 : Hid (PartsIs (w.setCell ⟨p, 1, none⟩ (.bool true)) p s true) := RowIs.set hr 1 _
    have d0 : decide ((s.size : Int) < (n : Int)) = true := decide_eq_true (by omega)
    have d1 : s.size < n := by omega
    clear h
    go_enter Tryz.func70, Tryz.ntmps70
    go_wp2
    go_ret
    exact ⟨rfl, r1.out, hu.setCell 1 _⟩

theorem PartsIs.big {w w' : World} {p : Nat} {s : ByteArray} {b : Bool} (h : PartsIs w p s b) (e : w = w') : PartsIs w' p s b := e ▸ h
theorem command_partsNumber (p : Nat) (s : ByteArray) (b : Bool) (n : Nat) (w : World) (hr : PartsIs w p s b) (hs : s.size ≤ 1000000) (hn : n ≤ 8) :
    Calls Tryz.prog 27 #[.pointer (some ⟨p, 0, none⟩), .int .i64 (n : Int)] w fun e w' => e = .returned (.int .i64 (nmN s n : Int)) ∧ PartsIs w' p (tkR s n) (nmB s b n) ∧ Upon p w w' := by
  have PT := command_take p s b n w hr hs
  have hv := valN_is s n hn
  have hB := fun w => octet_big (tkV s n) w (by have := tkV_size s n; unfold maxLen; omega)
  rw [hv.1] at hB
  have PB : Hid _ := hB
  replace hv := hv.2
  clear hB
  unfold nmN nmB
  generalize tkV s n = V at *
  generalize valN s n = N at *
  generalize tkB s b n = B at *
  generalize tkR s n = R at *
  by_cases h : 2000000000000 < N
  · rw [if_pos h, if_pos h]
    have d0 : decide ((2000000000000 : Int) < (N : Int)) = true := decide_eq_true (by omega)
    go_enter Tryz.func27, Tryz.ntmps27
    go_wp2_with fail
    with_reducible refine PT.mono ?_
    rintro e w1 ⟨rfl, r1, u1⟩
    have c1 : w1.cell? ⟨p, 1, none⟩ = some (.bool B) := RowIs.cellAt r1 rfl
    have f1 : w1.frozen? ⟨p, 1, none⟩ = false := RowIs.frozen r1 1
    have r2 : Hid (PartsIs (w1.setCell ⟨p, 1, none⟩ (.bool true)) p R true) := RowIs.set r1 1 _
    clear r1 hr
    go_wp2_with fail
    with_reducible refine (PB.out _).mono ?_
    rintro e w2 ⟨rfl, rfl⟩
    go_wp2
    go_ret
    exact ⟨rfl, r2.out, u1.setCell 1 _⟩
  · rw [if_neg h, if_neg h]
    have d0 : decide ((2000000000000 : Int) < (N : Int)) = false := decide_eq_false (by omega)
    go_enter Tryz.func27, Tryz.ntmps27
    go_wp2_with fail
    with_reducible refine PT.mono ?_
    rintro e w1 ⟨rfl, r1, u1⟩
    have r2 : Hid _ := r1
    clear r1 hr
    go_wp2_with fail
    with_reducible refine (PB.out _).mono ?_
    rintro e w2 ⟨rfl, rfl⟩
    go_wp2
    go_ret
    exact ⟨rfl, r2.out, u1⟩

theorem command_partsNumbers (p : Nat) (s : ByteArray) (b : Bool) (w : World) (hr : PartsIs w p s b) (hs : s.size ≤ 1000000) :
    Calls Tryz.prog 28 #[.pointer (some ⟨p, 0, none⟩)] w fun e w' => e = .returned (.tuple #[.int .i64 ((nmN s 8 : Int) - 1000000000000), .int .i64 (nmN (tkR s 8) 8 : Int)]) ∧ PartsIs w' p (tkR (tkR s 8) 8) (nmB (tkR s 8) (nmB s b 8) 8) ∧ Upon p w w' := by
  have P1 := command_partsNumber p s b 8 w hr hs (by decide)
  have P2' := fun (w : World) (h : PartsIs w p (tkR s 8) (nmB s b 8)) => command_partsNumber p (tkR s 8) (nmB s b 8) 8 w h (by have := tkR_le s 8; omega) (by decide)
  rw [show ((8 : Nat) : Int) = 8 from rfl] at P1 P2'
  have P2 : Hid _ := P2'
  clear P2'
  have n1 := nmN_le s 8
  have n2 := nmN_le (tkR s 8) 8
  generalize nmN s 8 = N1 at *
  generalize nmN (tkR s 8) 8 = N2 at *
  generalize nmB (tkR s 8) (nmB s b 8) 8 = B2 at *
  generalize nmB s b 8 = B1 at *
  generalize tkR (tkR s 8) 8 = R2 at *
  generalize tkR s 8 = R1 at *
  clear hr
  go_enter Tryz.func28, Tryz.ntmps28
  go_wp2_with fail
  with_reducible refine P1.mono ?_
  rintro e w1 ⟨rfl, r1, u1⟩
  go_wp2_with fail
  with_reducible refine (P2.out _ r1).mono ?_
  rintro e w2 ⟨rfl, r2, u2⟩
  clear r1
  have r3 : Hid _ := r2
  clear r2
  go_wp2
  go_ret2
  exact ⟨rfl, r3.out, u1.trans u2⟩

theorem command_partsText (p : Nat) (s : ByteArray) (b : Bool) (n : Nat) (w : World) (hr : PartsIs w p s b) (hs : s.size ≤ 1000000) (hn : n ≤ 8) :
    Calls Tryz.prog 29 #[.pointer (some ⟨p, 0, none⟩), .int .i64 (n : Int)] w fun e w' => e = .returned (.string (tkV (tkR s n) (nmN s n))) ∧ PartsIs w' p (tkR (tkR s n) (nmN s n)) (tkB (tkR s n) (nmB s b n) (nmN s n)) ∧ Upon p w w' := by
  have P1 := command_partsNumber p s b n w hr hs hn
  have h1 := tkR_le s n
  have P2 : Hid (∀ w, PartsIs w p (tkR s n) (nmB s b n) → _) := fun w h => command_take p (tkR s n) (nmB s b n) (nmN s n) w h (by omega)
  have h2 := tkV_le (tkR s n) (nmN s n)
  have P3 : Hid _ := fun w => strings_clone10 (tkV (tkR s n) (nmN s n)) w (by omega)
  generalize tkB (tkR s n) (nmB s b n) (nmN s n) = B2 at *
  generalize tkR (tkR s n) (nmN s n) = R2 at *
  generalize tkV (tkR s n) (nmN s n) = V at *
  generalize nmN s n = N1 at *
  generalize nmB s b n = B1 at *
  generalize tkR s n = R1 at *
  clear hr
  go_enter Tryz.func29, Tryz.ntmps29
  go_wp2_with fail
  with_reducible refine P1.mono ?_
  rintro e w1 ⟨rfl, r1, u1⟩
  go_wp2_with fail
  with_reducible refine (P2.out _ r1).mono ?_
  rintro e w2 ⟨rfl, r2, u2⟩
  clear r1
  go_wp2_with fail
  with_reducible refine (P3.out _).mono ?_
  rintro e w3 ⟨rfl, b3⟩
  have r3 : Hid (PartsIs w3 p R2 B2) := RowIs.below r2 b3 r2.lt
  clear r2
  go_wp2
  go_ret
  exact ⟨rfl, r3.out, (u1.trans u2).trans (Upon.of_below b3)⟩

end Go.Proofs.YtgcbanmjfnnccaaGreat

/-
  What package command's Get takes out of bytes: plain mathematics.
-/
namespace Go.Proofs.YtgcbanmjfnnccaaGreat
open Go.RowKit
set_option linter.unusedVariables false
set_option maxRecDepth 100000
set_option linter.unusedSimpArgs false

theorem tkV_list {s : ByteArray} {n : Nat} (h : n ≤ s.size) : (tkV s n).data.toList = s.data.toList.take n := by
  unfold tkV
  rw [if_pos h, ByteArray.data_extract, Array.toList_extract]
  simp
theorem tkR_list {s : ByteArray} {n : Nat} (h : n ≤ s.size) : (tkR s n).data.toList = s.data.toList.drop n := by
  unfold tkR
  rw [if_pos h, ByteArray.data_extract, Array.toList_extract]
  simp
  rw [List.take_of_length_le (by simp)]
theorem tkR_size {s : ByteArray} {n : Nat} (h : n ≤ s.size) : (tkR s n).size = s.size - n := by
  unfold tkR
  rw [if_pos h, ByteArray.size_extract]
  omega
theorem tkB_false {s : ByteArray} {b : Bool} {n : Nat} : tkB s b n = false ↔ b = false ∧ n ≤ s.size := by
  unfold tkB
  split
  · exact ⟨fun h => ⟨h, by assumption⟩, fun h => h.1⟩
  · exact ⟨fun h => (Bool.noConfusion h), fun h => absurd h.2 (by assumption)⟩
theorem nmB_false {s : ByteArray} {b : Bool} {n : Nat} : nmB s b n = false ↔ b = false ∧ n ≤ s.size ∧ valN s n ≤ 2000000000000 := by
  unfold nmB
  split
  · exact ⟨fun h => (Bool.noConfusion h), fun h => absurd h.2.2 (by omega)⟩
  · rw [tkB_false]
    exact ⟨fun h => ⟨h.1, h.2, by omega⟩, fun h => ⟨h.1, h.2.1⟩⟩
theorem valN_list {s : ByteArray} {n : Nat} (h : n ≤ s.size) : valN s n = (numOf (s.data.toList.take n)).toNat := by
  unfold valN
  rw [tkV_list h]
theorem nmN_is {s : ByteArray} {n : Nat} (h : valN s n ≤ 2000000000000) : nmN s n = valN s n := by
  unfold nmN
  rw [if_neg (by omega)]
theorem numOf_one (x : UInt8) : numOf [x] = (x.toNat : Int) := by simp [numOf]
theorem take_one (l : List UInt8) (h : 1 ≤ l.length) : l.take 1 = [l.getD 0 0] := by
  match l, h with
  | x :: l, _ => rfl
theorem getD_drop0 (l : List UInt8) (n : Nat) : (l.drop n).getD 0 0 = l.getD n 0 := by
  rw [List.getD_eq_getElem?_getD, List.getD_eq_getElem?_getD, List.getElem?_drop, Nat.add_zero]

/-- What Get is left with. -/
structure GotC where
  op : Nat
  num : Nat
  ver : Nat
  key : ByteArray
  rest : ByteArray
  bad : Bool
def gotC (b : ByteArray) : GotC :=
  ⟨nmN b 1, nmN (tkR b 1) 8, nmN (tkR (tkR b 1) 8) 8, tkV (tkR (tkR (tkR (tkR b 1) 8) 8) 1) (nmN (tkR (tkR (tkR b 1) 8) 8) 1),
    tkR (tkR (tkR (tkR (tkR b 1) 8) 8) 1) (nmN (tkR (tkR (tkR b 1) 8) 8) 1),
    tkB (tkR (tkR (tkR (tkR b 1) 8) 8) 1) (nmB (tkR (tkR (tkR b 1) 8) 8) (nmB (tkR (tkR b 1) 8) (nmB (tkR b 1) (nmB b false 1) 8) 8) 1) (nmN (tkR (tkR (tkR b 1) 8) 8) 1)⟩
def GotC.cmd (g : GotC) : Cmd := ⟨g.op, g.key, g.rest, (g.num : Int) - 1000000000000, g.ver⟩

theorem gotC_fits (b : ByteArray) (h : (gotC b).bad = false) : 18 + (b.data.toList.getD 17 0).toNat ≤ b.size ∧ (gotC b).cmd = cmdAt b.data.toList := by
  have hl : b.data.toList.length = b.size := by simp
  unfold gotC at h
  simp only at h
  rw [tkB_false, nmB_false, nmB_false, nmB_false, nmB_false] at h
  obtain ⟨⟨⟨⟨⟨_, s0, v0⟩, s1, v1⟩, s2, v2⟩, s3, v3⟩, s4⟩ := h
  have z1 := tkR_size s0
  have z2 := tkR_size s1
  have z3 := tkR_size s2
  have z4 := tkR_size s3
  have l1 := tkR_list s0
  have l2 := tkR_list s1
  have l3 := tkR_list s2
  have l4 := tkR_list s3
  rw [l1, List.drop_drop] at l2
  rw [l2, List.drop_drop] at l3
  rw [l3, List.drop_drop] at l4
  have l5 := tkR_list s4
  have l6 := tkV_list s4
  have e0 := valN_list s0
  have e1 := valN_list s1
  have e2 := valN_list s2
  have e3 := valN_list s3
  rw [take_one _ (by omega), numOf_one, Int.toNat_natCast] at e0
  rw [l1] at e1
  rw [l2] at e2
  rw [l3, take_one _ (by rw [List.length_drop]; omega), numOf_one, Int.toNat_natCast, getD_drop0] at e3
  have q0 := nmN_is v0
  have q1 := nmN_is v1
  have q2 := nmN_is v2
  have q3 := nmN_is v3
  have hb1 := numOf_bd8 ((b.data.toList.drop 1).take 8) (by rw [List.length_take]; omega)
  have hb2 := numOf_bd8 ((b.data.toList.drop 9).take 8) (by rw [List.length_take]; omega)
  rw [show (1 + 8 + 8 : Nat) = 17 from rfl] at e3
  rw [show (1 + 8 : Nat) = 9 from rfl] at e2
  rw [show (1 + 8 + 8 + 1 : Nat) = 18 from rfl] at l4
  rw [l4] at l5 l6
  have h18 : 18 + (b.data.toList.getD 17 0).toNat ≤ b.size := by omega
  have e4 : nmN (tkR (tkR (tkR b 1) 8) 8) 1 = (b.data.toList.getD 17 0).toNat := q3.trans e3
  rw [e4, List.drop_drop] at l5
  rw [e4] at l6
  have a1 : ((nmN b 1 : Nat) : Int) = ((b.data.toList.getD 0 0).toNat : Int) := by rw [q0, e0]
  have a2 : tkV (tkR (tkR (tkR (tkR b 1) 8) 8) 1) (b.data.toList.getD 17 0).toNat = str ((b.data.toList.drop 18).take (b.data.toList.getD 17 0).toNat) := by rw [← l6, str_back]
  have a3 : tkR (tkR (tkR (tkR (tkR b 1) 8) 8) 1) (b.data.toList.getD 17 0).toNat = str (b.data.toList.drop (18 + (b.data.toList.getD 17 0).toNat)) := by rw [← l5, str_back]
  have a4 : ((nmN (tkR b 1) 8 : Nat) : Int) = numOf ((b.data.toList.drop 1).take 8) := by rw [q1, e1]; omega
  have a5 : ((nmN (tkR (tkR b 1) 8) 8 : Nat) : Int) = numOf ((b.data.toList.drop 9).take 8) := by rw [q2, e2]; omega
  refine ⟨h18, ?_⟩
  unfold gotC GotC.cmd cmdAt
  simp only
  rw [e4, a1, a2, a3, a4, a5]

theorem gotC_of (b : ByteArray) (h : isCmd b) : (gotC b).bad = false := by
  obtain ⟨h18, hr⟩ := h
  obtain ⟨_, _, _, _, ⟨_, hn⟩, hv0, hv⟩ := hr
  have hl : b.data.toList.length = b.size := by simp
  have hn' : numOf ((b.data.toList.drop 1).take 8) - 1000000000000 ≤ 1000000000000 := hn
  have hv' : numOf ((b.data.toList.drop 9).take 8) ≤ 1000000000000 := hv
  have s0 : 1 ≤ b.size := by omega
  have z1 := tkR_size s0
  have s1 : 8 ≤ (tkR b 1).size := by omega
  have z2 := tkR_size s1
  have s2 : 8 ≤ (tkR (tkR b 1) 8).size := by omega
  have z3 := tkR_size s2
  have s3 : 1 ≤ (tkR (tkR (tkR b 1) 8) 8).size := by omega
  have z4 := tkR_size s3
  have l1 := tkR_list s0
  have l2 := tkR_list s1
  have l3 := tkR_list s2
  have l4 := tkR_list s3
  rw [l1, List.drop_drop] at l2
  rw [l2, List.drop_drop] at l3
  rw [l3, List.drop_drop] at l4
  have e0 := valN_list s0
  have e1 := valN_list s1
  have e2 := valN_list s2
  have e3 := valN_list s3
  rw [take_one _ (by omega), numOf_one, Int.toNat_natCast] at e0
  rw [l1] at e1
  rw [l2] at e2
  rw [l3, take_one _ (by rw [List.length_drop]; omega), numOf_one, Int.toNat_natCast, getD_drop0] at e3
  have t0 := (b.data.toList.getD 0 0).toNat_lt
  have t3 := (b.data.toList.getD (1 + 8 + 8) 0).toNat_lt
  have v0 : valN b 1 ≤ 2000000000000 := by omega
  have v1 : valN (tkR b 1) 8 ≤ 2000000000000 := by omega
  have v2 : valN (tkR (tkR b 1) 8) 8 ≤ 2000000000000 := by
    rw [show (1 + 8 : Nat) = 9 from rfl] at e2
    omega
  have v3 : valN (tkR (tkR (tkR b 1) 8) 8) 1 ≤ 2000000000000 := by omega
  unfold gotC
  simp only
  rw [tkB_false, nmB_false, nmB_false, nmB_false, nmB_false]
  refine ⟨⟨⟨⟨⟨rfl, s0, v0⟩, s1, v1⟩, s2, v2⟩, s3, v3⟩, ?_⟩
  rw [nmN_is v3, e3, z4, z3, z2, z1]
  rw [show (1 + 8 + 8 : Nat) = 17 from rfl]
  omega

/-- What Get tells. -/
theorem gotC_yes (b : ByteArray) (h : isCmd b) : (gotC b).bad = false ∧ (gotC b).cmd.right = true ∧ (gotC b).cmd = getC b ∧ getOk b = true := by
  have h1 := gotC_of b h
  have h2 := (gotC_fits b h1).2
  obtain ⟨g1, g2⟩ := get_yes h
  exact ⟨h1, by rw [h2]; exact decide_eq_true h.2, by rw [g1, h2], g2⟩
theorem gotC_no (b : ByteArray) (h : ¬ isCmd b) : ((gotC b).bad = true ∨ (gotC b).bad = false ∧ (gotC b).cmd.right = false) ∧ getC b = Cmd.zero ∧ getOk b = false := by
  obtain ⟨g1, g2⟩ := get_no h
  refine ⟨?_, g1, g2⟩
  cases hb : (gotC b).bad with
  | true => exact Or.inl rfl
  | false =>
    refine Or.inr ⟨rfl, ?_⟩
    obtain ⟨k1, k2⟩ := gotC_fits b hb
    rw [k2]
    exact decide_eq_false (fun hr => h ⟨k1, hr⟩)
theorem gotC_sizes (b : ByteArray) : (gotC b).key.size ≤ b.size ∧ (gotC b).rest.size ≤ b.size ∧ (gotC b).op ≤ 2000000000000 ∧ (gotC b).num ≤ 2000000000000 ∧ (gotC b).ver ≤ 2000000000000 := by
  unfold gotC
  simp only
  have h1 := tkR_le b 1
  have h2 := tkR_le (tkR b 1) 8
  have h3 := tkR_le (tkR (tkR b 1) 8) 8
  have h4 := tkR_le (tkR (tkR (tkR b 1) 8) 8) 1
  refine ⟨?_, ?_, nmN_le _ _, nmN_le _ _, nmN_le _ _⟩
  · exact Nat.le_trans (tkV_le _ _) (by omega)
  · exact Nat.le_trans (tkR_le _ _) (by omega)

end Go.Proofs.YtgcbanmjfnnccaaGreat

/-
  The contract of package command's Get.
-/
namespace Go.Proofs.YtgcbanmjfnnccaaGreat
open Go.RowKit
set_option linter.unusedVariables false
set_option maxRecDepth 100000
set_option linter.unusedSimpArgs false

theorem get_world (w : World) (b : ByteArray) : CmdIs (((w.alloc (.cells #[.int .i64 0, .string ⟨#[]⟩, .string ⟨#[]⟩, .int .i64 0, .int .i64 0] 47)).alloc (.cells #[.string b, .bool false] 69)).alloc (.cells #[.int .i64 0, .string ⟨#[]⟩, .string ⟨#[]⟩, .int .i64 0, .int .i64 0] 47)) w.heap.size Cmd.zero ∧ PartsIs (((w.alloc (.cells #[.int .i64 0, .string ⟨#[]⟩, .string ⟨#[]⟩, .int .i64 0, .int .i64 0] 47)).alloc (.cells #[.string b, .bool false] 69)).alloc (.cells #[.int .i64 0, .string ⟨#[]⟩, .string ⟨#[]⟩, .int .i64 0, .int .i64 0] 47)) (w.heap.size + 1) b false ∧ CmdIs (((w.alloc (.cells #[.int .i64 0, .string ⟨#[]⟩, .string ⟨#[]⟩, .int .i64 0, .int .i64 0] 47)).alloc (.cells #[.string b, .bool false] 69)).alloc (.cells #[.int .i64 0, .string ⟨#[]⟩, .string ⟨#[]⟩, .int .i64 0, .int .i64 0] 47)) (w.heap.size + 1 + 1) Cmd.zero ∧ Below w.heap.size w (((w.alloc (.cells #[.int .i64 0, .string ⟨#[]⟩, .string ⟨#[]⟩, .int .i64 0, .int .i64 0] 47)).alloc (.cells #[.string b, .bool false] 69)).alloc (.cells #[.int .i64 0, .string ⟨#[]⟩, .string ⟨#[]⟩, .int .i64 0, .int .i64 0] 47)) ∧ (((w.alloc (.cells #[.int .i64 0, .string ⟨#[]⟩, .string ⟨#[]⟩, .int .i64 0, .int .i64 0] 47)).alloc (.cells #[.string b, .bool false] 69)).alloc (.cells #[.int .i64 0, .string ⟨#[]⟩, .string ⟨#[]⟩, .int .i64 0, .int .i64 0] 47)).heap.size = w.heap.size + 3 := by
  have a0 := CmdIs.new w Cmd.zero
  have s0 : (w.alloc (.cells #[.int .i64 0, .string ⟨#[]⟩, .string ⟨#[]⟩, .int .i64 0, .int .i64 0] 47)).heap.size = w.heap.size + 1 := by simp
  have a1 : PartsIs ((w.alloc (.cells #[.int .i64 0, .string ⟨#[]⟩, .string ⟨#[]⟩, .int .i64 0, .int .i64 0] 47)).alloc (.cells #[.string b, .bool false] 69)) ((w.alloc (.cells #[.int .i64 0, .string ⟨#[]⟩, .string ⟨#[]⟩, .int .i64 0, .int .i64 0] 47)).heap.size) b false := RowIs.new _ _ _
  have s1 : ((w.alloc (.cells #[.int .i64 0, .string ⟨#[]⟩, .string ⟨#[]⟩, .int .i64 0, .int .i64 0] 47)).alloc (.cells #[.string b, .bool false] 69)).heap.size = w.heap.size + 1 + 1 := by simp
  have a2 := CmdIs.new ((w.alloc (.cells #[.int .i64 0, .string ⟨#[]⟩, .string ⟨#[]⟩, .int .i64 0, .int .i64 0] 47)).alloc (.cells #[.string b, .bool false] 69)) Cmd.zero
  rw [s0] at a1
  rw [s1] at a2
  exact ⟨(a0.alloc _).alloc _, RowIs.alloc a1 _, a2, (((Below.refl _ _).alloc (Nat.le_refl _) _).alloc (by simp) _).alloc (by simp; omega) _, by simp⟩
theorem results_row_tmp10 {P : Program} {fn : Func} {p q : Tmp} {ty : TypeId} (h : fn.results = #[.cell p ty, .tmp q]) (tmps : Array Value) (w : World) (g : Nat) (cs : List Value) (d : TypeDesc)
    (hp : tmps[p]?.getD undef = .pointer (some ⟨g, 0, none⟩)) (u : Value) (hq : tmps[q]?.getD undef = u) (hc : w.rangeAt g 0 cs) (hu : P.underlying ty = some d) (hd : d.isRow = true) (hi : (P.info? ty).map (·.size) = some cs.length) :
    (results fn tmps).run P w = .ok (.tuple #[.agg cs.toArray, u]) w := by
  simp [results, h, hp, hq, asAddr, run_loadVar_mid w g 0 ty cs d hc hu hd hi]
theorem hide {p : Prop} (h : p) : Hid p := h
theorem Upon.beyond {p B : Nat} {w0 w w' : World} (h : Below B w0 w) (u : Upon p w w') (hp : B ≤ p) (hB : B ≤ w.heap.size) : Below B w0 w' := h.trans (u.below hp hB)

set_option maxHeartbeats 1000000 in
theorem command_get (b : ByteArray) (w : World) (hb : b.size ≤ 1000000) : Calls Tryz.prog 15 #[.string b] w fun e w' => e = .returned (.tuple #[(getC b).v, .bool (getOk b)]) ∧ Below w.heap.size w w' := by
  have hsz := gotC_sizes b
  have hle1 := tkR_le b 1
  have hle2 := tkR_le (tkR b 1) 8
  have hle3 := tkR_le (tkR (tkR b 1) 8) 8
  have Q1 := fun w h => command_partsNumber (w.heap.size + 1) b false 1 w h hb (by decide)
  have Q1 := fun (p : Nat) (w : World) (h : PartsIs w p b false) => command_partsNumber p b false 1 w h hb (by decide)
  have Q2 := fun (p : Nat) (w : World) (h : PartsIs w p (tkR b 1) (nmB b false 1)) => command_partsNumbers p (tkR b 1) (nmB b false 1) w h (by omega)
  have Q3 := fun (p : Nat) (w : World) (h : PartsIs w p (tkR (tkR (tkR b 1) 8) 8) (nmB (tkR (tkR b 1) 8) (nmB (tkR b 1) (nmB b false 1) 8) 8)) => command_partsText p (tkR (tkR (tkR b 1) 8) 8) (nmB (tkR (tkR b 1) 8) (nmB (tkR b 1) (nmB b false 1) 8) 8) 1 w h (by omega) (by decide)
  rw [show ((1 : Nat) : Int) = 1 from rfl] at Q1 Q3
  have HG : gotC b = ⟨nmN b 1, nmN (tkR b 1) 8, nmN (tkR (tkR b 1) 8) 8, tkV (tkR (tkR (tkR (tkR b 1) 8) 8) 1) (nmN (tkR (tkR (tkR b 1) 8) 8) 1),
    tkR (tkR (tkR (tkR (tkR b 1) 8) 8) 1) (nmN (tkR (tkR (tkR b 1) 8) 8) 1),
    tkB (tkR (tkR (tkR (tkR b 1) 8) 8) 1) (nmB (tkR (tkR (tkR b 1) 8) 8) (nmB (tkR (tkR b 1) 8) (nmB (tkR b 1) (nmB b false 1) 8) 8) 1) (nmN (tkR (tkR (tkR b 1) 8) 8) 1)⟩ := rfl
  clear hle1 hle2 hle3
  generalize tkB (tkR (tkR (tkR (tkR b 1) 8) 8) 1) (nmB (tkR (tkR (tkR b 1) 8) 8) (nmB (tkR (tkR b 1) 8) (nmB (tkR b 1) (nmB b false 1) 8) 8) 1) (nmN (tkR (tkR (tkR b 1) 8) 8) 1) = BAD at *
  generalize tkR (tkR (tkR (tkR (tkR b 1) 8) 8) 1) (nmN (tkR (tkR (tkR b 1) 8) 8) 1) = REST at *
  generalize tkV (tkR (tkR (tkR (tkR b 1) 8) 8) 1) (nmN (tkR (tkR (tkR b 1) 8) 8) 1) = KEY at *
  generalize nmB (tkR (tkR b 1) 8) (nmB (tkR b 1) (nmB b false 1) 8) 8 = B3 at *
  generalize tkR (tkR (tkR b 1) 8) 8 = S3 at *
  generalize nmN (tkR (tkR b 1) 8) 8 = VER at *
  generalize nmN (tkR b 1) 8 = NUM at *
  generalize nmB b false 1 = B1 at *
  generalize tkR b 1 = S1 at *
  generalize nmN b 1 = OP at *
  have P1 : Hid _ := Q1
  have P2 : Hid _ := Q2
  have P3 : Hid _ := Q3
  rw [HG] at hsz
  have z1 : KEY.size ≤ b.size := hsz.1
  have z2 : REST.size ≤ b.size := hsz.2.1
  have z3 : OP ≤ 2000000000000 := hsz.2.2.1
  have z4 : NUM ≤ 2000000000000 := hsz.2.2.2.1
  have z5 : VER ≤ 2000000000000 := hsz.2.2.2.2
  clear hsz
  have PR : Hid _ := fun w => command_right ⟨(OP : Int), KEY, REST, (NUM : Int) - 1000000000000, (VER : Int)⟩ w (by show KEY.size ≤ maxLen; unfold maxLen; omega)
  have PC : Hid _ := fun w => strings_clone10 REST w (by omega)
  have HW : Hid _ := get_world w b
  clear Q1 Q2 Q3
  have HF : Hid ((isCmd b ∧ BAD = false ∧ (⟨(OP : Int), KEY, REST, (NUM : Int) - 1000000000000, (VER : Int)⟩ : Cmd).right = true ∧ (⟨(OP : Int), KEY, REST, (NUM : Int) - 1000000000000, (VER : Int)⟩ : Cmd) = getC b ∧ getOk b = true) ∨ ((BAD = true ∨ BAD = false ∧ (⟨(OP : Int), KEY, REST, (NUM : Int) - 1000000000000, (VER : Int)⟩ : Cmd).right = false) ∧ getC b = Cmd.zero ∧ getOk b = false)) := by
    by_cases h : isCmd b
    · have := gotC_yes b h
      rw [HG] at this
      exact Or.inl ⟨h, this⟩
    · have := gotC_no b h
      rw [HG] at this
      exact Or.inr this
  clear HG z1 z2
  go_enter Tryz.func15, Tryz.ntmps15
  go_wp2_with fail
  obtain ⟨R0, RP, RC, B, hz⟩ := HW.out
  clear HW
  generalize ((w.alloc (.cells #[.int .i64 0, .string ⟨#[]⟩, .string ⟨#[]⟩, .int .i64 0, .int .i64 0] 47)).alloc (.cells #[.string b, .bool false] 69)).alloc (.cells #[.int .i64 0, .string ⟨#[]⟩, .string ⟨#[]⟩, .int .i64 0, .int .i64 0] 47) = w0 at *
  have g0 := R0.lt
  have gc := RC.lt
  have gp : w.heap.size + 1 < w0.heap.size := by omega
  with_reducible refine (P1.out _ _ RP).mono ?_
  rintro e w1 ⟨rfl, RP1, u1⟩
  replace RC := u1.row RC (by omega)
  replace R0 := u1.row R0 (by omega)
  replace B := Upon.beyond B u1 (by omega) (by omega)
  have hz1 := u1.size
  have k0 : w1.cell? ⟨w.heap.size + 1 + 1, 0, none⟩ = some (.int .i64 0) := RC.cellAt rfl
  have f0 : w1.frozen? ⟨w.heap.size + 1 + 1, 0, none⟩ = false := RC.frozen 0
  clear RP
  go_wp2_with fail
  have RP2 : PartsIs (w1.setCell ⟨w.heap.size + 1 + 1, 0, none⟩ (.int .i64 (OP : Int))) _ _ _ := RowIs.setOther RP1 (a := ⟨w.heap.size + 1 + 1, 0, none⟩) (by simp) _
  replace RC := RC.set 0 (.int .i64 (OP : Int))
  replace R0 := R0.setOther (a := ⟨w.heap.size + 1 + 1, 0, none⟩) (by simp; omega) (.int .i64 (OP : Int))
  replace B : Below w.heap.size w (w1.setCell ⟨w.heap.size + 1 + 1, 0, none⟩ (.int .i64 (OP : Int))) := B.setCell (show w.heap.size ≤ w.heap.size + 1 + 1 by omega) _
  have hz2 : (w1.setCell ⟨w.heap.size + 1 + 1, 0, none⟩ (.int .i64 (OP : Int))).heap.size = w1.heap.size := by simp [World.setCell]
  clear k0 f0 RP1
  generalize w1.setCell ⟨w.heap.size + 1 + 1, 0, none⟩ (.int .i64 (OP : Int)) = w2 at *
  with_reducible refine (P2.out _ _ RP2).mono ?_
  rintro e w3 ⟨rfl, RP3, u3⟩
  replace RC := u3.row RC (by omega)
  replace R0 := u3.row R0 (by omega)
  replace B := Upon.beyond B u3 (by omega) (by omega)
  have hz3 := u3.size
  have k3 : w3.cell? ⟨w.heap.size + 1 + 1, 3, none⟩ = some (.int .i64 0) := RC.cellAt rfl
  have k4 : w3.cell? ⟨w.heap.size + 1 + 1, 4, none⟩ = some (.int .i64 0) := RC.cellAt rfl
  have f3 : w3.frozen? ⟨w.heap.size + 1 + 1, 3, none⟩ = false := RC.frozen 3
  have f4 : w3.frozen? ⟨w.heap.size + 1 + 1, 4, none⟩ = false := RC.frozen 4
  clear RP2
  go_wp2_with fail
  have RP4 : PartsIs ((w3.setCell ⟨w.heap.size + 1 + 1, 3, none⟩ (.int .i64 ((NUM : Int) - 1000000000000))).setCell ⟨w.heap.size + 1 + 1, 4, none⟩ (.int .i64 (VER : Int))) _ _ _ := RowIs.setOther (RowIs.setOther RP3 (a := ⟨w.heap.size + 1 + 1, 3, none⟩) (by simp) _) (a := ⟨w.heap.size + 1 + 1, 4, none⟩) (by simp) _
  replace RC := (RC.set 3 (.int .i64 ((NUM : Int) - 1000000000000))).set 4 (.int .i64 (VER : Int))
  replace R0 := (R0.setOther (a := ⟨w.heap.size + 1 + 1, 3, none⟩) (by simp; omega) (.int .i64 ((NUM : Int) - 1000000000000))).setOther (a := ⟨w.heap.size + 1 + 1, 4, none⟩) (by simp; omega) (.int .i64 (VER : Int))
  replace B : Below w.heap.size w ((w3.setCell ⟨w.heap.size + 1 + 1, 3, none⟩ (.int .i64 ((NUM : Int) - 1000000000000))).setCell ⟨w.heap.size + 1 + 1, 4, none⟩ (.int .i64 (VER : Int))) := (B.setCell (show w.heap.size ≤ w.heap.size + 1 + 1 by omega) _).setCell (show w.heap.size ≤ w.heap.size + 1 + 1 by omega) _
  have hz4 : ((w3.setCell ⟨w.heap.size + 1 + 1, 3, none⟩ (.int .i64 ((NUM : Int) - 1000000000000))).setCell ⟨w.heap.size + 1 + 1, 4, none⟩ (.int .i64 (VER : Int))).heap.size = w3.heap.size := by simp [World.setCell]
  clear k3 f3 k4 f4 RP3
  generalize (w3.setCell ⟨w.heap.size + 1 + 1, 3, none⟩ (.int .i64 ((NUM : Int) - 1000000000000))).setCell ⟨w.heap.size + 1 + 1, 4, none⟩ (.int .i64 (VER : Int)) = w4 at *
  with_reducible refine (P3.out _ _ RP4).mono ?_
  rintro e w5 ⟨rfl, RP5, u5⟩
  replace RC := u5.row RC (by omega)
  replace R0 := u5.row R0 (by omega)
  replace B := Upon.beyond B u5 (by omega) (by omega)
  have hz5 := u5.size
  have c0 : w5.cell? ⟨w.heap.size + 1, 0, none⟩ = some (.string REST) := RowIs.cellAt RP5 rfl
  have c1 : w5.cell? ⟨w.heap.size + 1, 1, none⟩ = some (.bool BAD) := RowIs.cellAt RP5 rfl
  have k0 : w5.cell? ⟨w.heap.size + 1 + 1, 0, none⟩ = some (.int .i64 (OP : Int)) := RC.cellAt rfl
  have k1 : w5.cell? ⟨w.heap.size + 1 + 1, 1, none⟩ = some (.string ⟨#[]⟩) := RC.cellAt rfl
  have k2 : w5.cell? ⟨w.heap.size + 1 + 1, 2, none⟩ = some (.string ⟨#[]⟩) := RC.cellAt rfl
  have k3 : w5.cell? ⟨w.heap.size + 1 + 1, 3, none⟩ = some (.int .i64 ((NUM : Int) - 1000000000000)) := RC.cellAt rfl
  have k4 : w5.cell? ⟨w.heap.size + 1 + 1, 4, none⟩ = some (.int .i64 (VER : Int)) := RC.cellAt rfl
  have f1 : w5.frozen? ⟨w.heap.size + 1 + 1, 1, none⟩ = false := RC.frozen 1
  have f2 : w5.frozen? ⟨w.heap.size + 1 + 1, 2, none⟩ = false := RC.frozen 2
  have RCH := hide RC
  have R0H := hide R0
  have BH := hide B
  clear RP4 RP5 RC R0 B
  have q0 : ∀ j : Nat, w5.cell? ⟨w.heap.size, j, none⟩ = (([.int .i64 0, .string ⟨#[]⟩, .string ⟨#[]⟩, .int .i64 0, .int .i64 0] : List Value))[j]? := fun j => RowIs.cell R0H.out j
  have z0 : ∀ j : Nat, w5.frozen? ⟨w.heap.size, j, none⟩ = false := fun j => RowIs.frozen R0H.out j
  rcases HF.out with ⟨hc, rfl, hr, hcmd, hok⟩ | ⟨hbad, hcmd, hok⟩
  · have HE : Hid (Ending.returned (.tuple #[.agg #[.int .i64 (OP : Int), .string KEY, .string REST, .int .i64 ((NUM : Int) - 1000000000000), .int .i64 (VER : Int)], .bool true]) = Ending.returned (.tuple #[(getC b).v, .bool (getOk b)])) := by
      show Ending.returned (.tuple #[Cmd.v ⟨(OP : Int), KEY, REST, (NUM : Int) - 1000000000000, (VER : Int)⟩, .bool true]) = _
      rw [hcmd, hok]
    have PR2 : Hid (∀ w, Calls Tryz.prog 61 #[.agg #[.int .i64 (OP : Int), .string KEY, .string REST, .int .i64 ((NUM : Int) - 1000000000000), .int .i64 (VER : Int)]] w fun e w' => e = .returned (.bool true) ∧ Below w.heap.size w w') := by
      have := PR.out
      rw [hr] at this
      exact this
    clear HF hcmd hr hok PR
    go_wp2_with fail
    with_reducible refine (PR2.out _).mono ?_
    rintro e w6 ⟨rfl, b6⟩
    have RC := (RowIs.set (RowIs.set RCH.out 1 (.string KEY)) 2 (.string REST)).below b6 (RowIs.lt ((RCH.out.set 1 (.string KEY)).set 2 (.string REST)))
    have R05 := (RowIs.setOther R0H.out (a := ⟨w.heap.size + 1 + 1, 1, none⟩) (by simp; omega) (.string KEY)).setOther (a := ⟨w.heap.size + 1 + 1, 2, none⟩) (by simp; omega) (.string REST)
    have R0 := R05.below b6 (RowIs.lt R05)
    have B5 : Below w.heap.size w ((w5.setCell ⟨w.heap.size + 1 + 1, 1, none⟩ (.string KEY)).setCell ⟨w.heap.size + 1 + 1, 2, none⟩ (.string REST)) := (BH.out.setCell (show w.heap.size ≤ w.heap.size + 1 + 1 by omega) _).setCell (show w.heap.size ≤ w.heap.size + 1 + 1 by omega) _
    have B := bel_chain8 B5 b6
    clear R05 B5 b6 k0 k1 k2 k3 k4 c0 c1 f1 f2 q0 z0
    have k2 : w6.cell? ⟨w.heap.size + 1 + 1, 2, none⟩ = some (.string REST) := RC.cellAt rfl
    go_wp2_with fail
    with_reducible refine (PC.out _).mono ?_
    rintro e w7 ⟨rfl, b7⟩
    replace RC := RC.below b7 (RowIs.lt RC)
    replace R0 := R0.below b7 (RowIs.lt R0)
    replace B := bel_chain8 B b7
    clear b7 k2
    have k0 : w7.cell? ⟨w.heap.size + 1 + 1, 0, none⟩ = some (.int .i64 (OP : Int)) := RC.cellAt rfl
    have k1 : w7.cell? ⟨w.heap.size + 1 + 1, 1, none⟩ = some (.string KEY) := RC.cellAt rfl
    have k2 : w7.cell? ⟨w.heap.size + 1 + 1, 2, none⟩ = some (.string REST) := RC.cellAt rfl
    have k3 : w7.cell? ⟨w.heap.size + 1 + 1, 3, none⟩ = some (.int .i64 ((NUM : Int) - 1000000000000)) := RC.cellAt rfl
    have k4 : w7.cell? ⟨w.heap.size + 1 + 1, 4, none⟩ = some (.int .i64 (VER : Int)) := RC.cellAt rfl
    have f2 : w7.frozen? ⟨w.heap.size + 1 + 1, 2, none⟩ = false := RC.frozen 2
    have r0 : w7.cell? ⟨w.heap.size, 0, none⟩ = some (.int .i64 0) := R0.cellAt rfl
    have r1 : w7.cell? ⟨w.heap.size, 1, none⟩ = some (.string ⟨#[]⟩) := R0.cellAt rfl
    have r2 : w7.cell? ⟨w.heap.size, 2, none⟩ = some (.string ⟨#[]⟩) := R0.cellAt rfl
    have r3 : w7.cell? ⟨w.heap.size, 3, none⟩ = some (.int .i64 0) := R0.cellAt rfl
    have r4 : w7.cell? ⟨w.heap.size, 4, none⟩ = some (.int .i64 0) := R0.cellAt rfl
    have t0 : w7.frozen? ⟨w.heap.size, 0, none⟩ = false := R0.frozen 0
    have t1 : w7.frozen? ⟨w.heap.size, 1, none⟩ = false := R0.frozen 1
    have t2 : w7.frozen? ⟨w.heap.size, 2, none⟩ = false := R0.frozen 2
    have t3 : w7.frozen? ⟨w.heap.size, 3, none⟩ = false := R0.frozen 3
    have t4 : w7.frozen? ⟨w.heap.size, 4, none⟩ = false := R0.frozen 4
    have RCH2 := hide RC
    have R0H2 := hide R0
    have BH2 := hide B
    clear RC R0 B RCH R0H BH
    go_wp2
    have RF : RowIs ((((((w7.setCell ⟨w.heap.size + 1 + 1, 2, none⟩ (.string REST)).setCell ⟨w.heap.size, 0, none⟩ (.int .i64 (OP : Int))).setCell ⟨w.heap.size, 1, none⟩ (.string KEY)).setCell ⟨w.heap.size, 2, none⟩ (.string REST)).setCell ⟨w.heap.size, 3, none⟩ (.int .i64 ((NUM : Int) - 1000000000000))).setCell ⟨w.heap.size, 4, none⟩ (.int .i64 (VER : Int))) w.heap.size 47 [.int .i64 (OP : Int), .string KEY, .string REST, .int .i64 ((NUM : Int) - 1000000000000), .int .i64 (VER : Int)] := (((((R0H2.out.setOther (a := ⟨w.heap.size + 1 + 1, 2, none⟩) (by simp; omega) (.string REST)).set 0 _).set 1 _).set 2 _).set 3 _).set 4 _
    refine bodyPost_ret (v := .tuple #[.agg ([.int .i64 (OP : Int), .string KEY, .string REST, .int .i64 ((NUM : Int) - 1000000000000), .int .i64 (VER : Int)] : List Value).toArray, .bool true]) (results_row_tmp10 rfl _ _ w.heap.size [.int .i64 (OP : Int), .string KEY, .string REST, .int .i64 ((NUM : Int) - 1000000000000), .int .i64 (VER : Int)] _ (by simp) (.bool true) (by simp) (RF.range (by simp)) Tryz.underlying47 rfl (by kernel_rfl)) rfl ⟨HE.out, (((((BH2.out.setCell (show w.heap.size ≤ w.heap.size + 1 + 1 by omega) _).setCell (Nat.le_refl _) _).setCell (Nat.le_refl _) _).setCell (Nat.le_refl _) _).setCell (Nat.le_refl _) _).setCell (Nat.le_refl _) _⟩
  · have HE : Hid (Ending.returned (.tuple #[.agg #[.int .i64 0, .string ⟨#[]⟩, .string ⟨#[]⟩, .int .i64 0, .int .i64 0], .bool false]) = Ending.returned (.tuple #[(getC b).v, .bool (getOk b)])) := by
      show Ending.returned (.tuple #[Cmd.v Cmd.zero, .bool false]) = _
      rw [hcmd, hok]
    clear hcmd hok
    rcases hbad with rfl | ⟨rfl, hr⟩
    · clear HF PR
      have R0 := R0H.out
      have r0 : w5.cell? ⟨w.heap.size, 0, none⟩ = some (.int .i64 0) := R0.cellAt rfl
      have r1 : w5.cell? ⟨w.heap.size, 1, none⟩ = some (.string ⟨#[]⟩) := R0.cellAt rfl
      have r2 : w5.cell? ⟨w.heap.size, 2, none⟩ = some (.string ⟨#[]⟩) := R0.cellAt rfl
      have r3 : w5.cell? ⟨w.heap.size, 3, none⟩ = some (.int .i64 0) := R0.cellAt rfl
      have r4 : w5.cell? ⟨w.heap.size, 4, none⟩ = some (.int .i64 0) := R0.cellAt rfl
      have t0 : w5.frozen? ⟨w.heap.size, 0, none⟩ = false := R0.frozen 0
      have t1 : w5.frozen? ⟨w.heap.size, 1, none⟩ = false := R0.frozen 1
      have t2 : w5.frozen? ⟨w.heap.size, 2, none⟩ = false := R0.frozen 2
      have t3 : w5.frozen? ⟨w.heap.size, 3, none⟩ = false := R0.frozen 3
      have t4 : w5.frozen? ⟨w.heap.size, 4, none⟩ = false := R0.frozen 4
      clear R0
      go_wp2
      have RF : RowIs (((((((w5.setCell ⟨w.heap.size + 1 + 1, 1, none⟩ (.string KEY)).setCell ⟨w.heap.size + 1 + 1, 2, none⟩ (.string REST)).setCell ⟨w.heap.size, 0, none⟩ (.int .i64 0)).setCell ⟨w.heap.size, 1, none⟩ (.string ⟨#[]⟩)).setCell ⟨w.heap.size, 2, none⟩ (.string ⟨#[]⟩)).setCell ⟨w.heap.size, 3, none⟩ (.int .i64 0)).setCell ⟨w.heap.size, 4, none⟩ (.int .i64 0)) w.heap.size 47 [.int .i64 0, .string ⟨#[]⟩, .string ⟨#[]⟩, .int .i64 0, .int .i64 0] := ((((((RowIs.setOther R0H.out (a := ⟨w.heap.size + 1 + 1, 1, none⟩) (by simp; omega) (.string KEY)).setOther (a := ⟨w.heap.size + 1 + 1, 2, none⟩) (by simp; omega) (.string REST)).set 0 _).set 1 _).set 2 _).set 3 _).set 4 _
      refine bodyPost_ret (v := .tuple #[.agg ([.int .i64 0, .string ⟨#[]⟩, .string ⟨#[]⟩, .int .i64 0, .int .i64 0] : List Value).toArray, .bool false]) (results_row_tmp10 rfl _ _ w.heap.size [.int .i64 0, .string ⟨#[]⟩, .string ⟨#[]⟩, .int .i64 0, .int .i64 0] _ (by simp) (.bool false) (by simp) (RF.range (by simp)) Tryz.underlying47 rfl (by kernel_rfl)) rfl ⟨HE.out, ((((((Below.setCell (Below.setCell BH.out (show w.heap.size ≤ w.heap.size + 1 + 1 by omega) _) (show w.heap.size ≤ w.heap.size + 1 + 1 by omega) _)).setCell (Nat.le_refl _) _).setCell (Nat.le_refl _) _).setCell (Nat.le_refl _) _).setCell (Nat.le_refl _) _).setCell (Nat.le_refl _) _⟩
    · have PR2 : Hid (∀ w, Calls Tryz.prog 61 #[.agg #[.int .i64 (OP : Int), .string KEY, .string REST, .int .i64 ((NUM : Int) - 1000000000000), .int .i64 (VER : Int)]] w fun e w' => e = .returned (.bool false) ∧ Below w.heap.size w w') := by
        have := PR.out
        rw [hr] at this
        exact this
      clear HF hr PR
      go_wp2_with fail
      with_reducible refine (PR2.out _).mono ?_
      rintro e w6 ⟨rfl, b6⟩
      have R05 := ((RowIs.setOther R0H.out (a := ⟨w.heap.size + 1 + 1, 1, none⟩) (by simp; omega) (.string KEY)).setOther (a := ⟨w.heap.size + 1 + 1, 2, none⟩) (by simp; omega) (.string REST))
      have R0 := R05.below b6 (RowIs.lt R05)
      have B := bel_chain8 (show Below w.heap.size w ((w5.setCell ⟨w.heap.size + 1 + 1, 1, none⟩ (.string KEY)).setCell ⟨w.heap.size + 1 + 1, 2, none⟩ (.string REST)) from (Below.setCell (Below.setCell BH.out (show w.heap.size ≤ w.heap.size + 1 + 1 by omega) _) (show w.heap.size ≤ w.heap.size + 1 + 1 by omega) _)) b6
      clear R05 b6 k0 k1 k2 k3 k4 c0 c1 f1 f2 q0 z0
      have r0 : w6.cell? ⟨w.heap.size, 0, none⟩ = some (.int .i64 0) := R0.cellAt rfl
      have r1 : w6.cell? ⟨w.heap.size, 1, none⟩ = some (.string ⟨#[]⟩) := R0.cellAt rfl
      have r2 : w6.cell? ⟨w.heap.size, 2, none⟩ = some (.string ⟨#[]⟩) := R0.cellAt rfl
      have r3 : w6.cell? ⟨w.heap.size, 3, none⟩ = some (.int .i64 0) := R0.cellAt rfl
      have r4 : w6.cell? ⟨w.heap.size, 4, none⟩ = some (.int .i64 0) := R0.cellAt rfl
      have t0 : w6.frozen? ⟨w.heap.size, 0, none⟩ = false := R0.frozen 0
      have t1 : w6.frozen? ⟨w.heap.size, 1, none⟩ = false := R0.frozen 1
      have t2 : w6.frozen? ⟨w.heap.size, 2, none⟩ = false := R0.frozen 2
      have t3 : w6.frozen? ⟨w.heap.size, 3, none⟩ = false := R0.frozen 3
      have t4 : w6.frozen? ⟨w.heap.size, 4, none⟩ = false := R0.frozen 4
      have R0H2 := hide R0
      have BH2 := hide B
      clear R0 B RCH R0H BH
      go_wp2
      have RF : RowIs ((((((w6).setCell ⟨w.heap.size, 0, none⟩ (.int .i64 0)).setCell ⟨w.heap.size, 1, none⟩ (.string ⟨#[]⟩)).setCell ⟨w.heap.size, 2, none⟩ (.string ⟨#[]⟩)).setCell ⟨w.heap.size, 3, none⟩ (.int .i64 0)).setCell ⟨w.heap.size, 4, none⟩ (.int .i64 0)) w.heap.size 47 [.int .i64 0, .string ⟨#[]⟩, .string ⟨#[]⟩, .int .i64 0, .int .i64 0] := ((((R0H2.out.set 0 _).set 1 _).set 2 _).set 3 _).set 4 _
      refine bodyPost_ret (v := .tuple #[.agg ([.int .i64 0, .string ⟨#[]⟩, .string ⟨#[]⟩, .int .i64 0, .int .i64 0] : List Value).toArray, .bool false]) (results_row_tmp10 rfl _ _ w.heap.size [.int .i64 0, .string ⟨#[]⟩, .string ⟨#[]⟩, .int .i64 0, .int .i64 0] _ (by simp) (.bool false) (by simp) (RF.range (by simp)) Tryz.underlying47 rfl (by kernel_rfl)) rfl ⟨HE.out, (((((BH2.out).setCell (Nat.le_refl _) _).setCell (Nat.le_refl _) _).setCell (Nat.le_refl _) _).setCell (Nat.le_refl _) _).setCell (Nat.le_refl _) _⟩

end Go.Proofs.YtgcbanmjfnnccaaGreat

/-
  Chapter 10's alive.
-/
namespace Go.Proofs.YtgcbanmjfnnccaaGreat
open Go.RowKit
set_option linter.unusedVariables false
set_option maxRecDepth 100000
set_option linter.unusedSimpArgs false

theorem opNameS_ne (op : Int) (h : IsOp op) : opNameS op ≠ ⟨#[]⟩ := by
  rcases classN_in op h with rfl | rfl | rfl | rfl | rfl | rfl | rfl | rfl | rfl | rfl | rfl | rfl | rfl <;> decide
theorem names_apart (a b : Int) (ha : IsOp a) (hne : a ≠ b) : opNameS a ≠ opNameS b := by
  by_cases hb : IsOp b
  · obtain ⟨i, rfl⟩ : ∃ i : Nat, a = (i : Int) := Int.eq_ofNat_of_zero_le (by unfold IsOp at ha; omega)
    obtain ⟨j, rfl⟩ : ∃ j : Nat, b = (j : Int) := Int.eq_ofNat_of_zero_le (by unfold IsOp at hb; omega)
    have key : ∀ i : Fin 14, ∀ j : Fin 14, i ≠ j → opNameL.getD i.val ⟨#[]⟩ ≠ opNameL.getD j.val ⟨#[]⟩ := by decide +kernel
    have hi : i < 14 := by unfold IsOp at ha; omega
    have hj : j < 14 := by unfold IsOp at hb; omega
    rw [opNameS_in i (by omega), opNameS_in j (by omega)]
    exact key ⟨i, hi⟩ ⟨j, hj⟩ (fun e => hne (by have h2 : i = j := congrArg Fin.val e; rw [h2]))
  · rw [opNameS_out b hb]
    exact opNameS_ne a ha

def cmdK : Cmd := ⟨2, ⟨#[107]⟩, ⟨#[118]⟩, 5, 0⟩
theorem cmdK_right : cmdK.Right := by decide
theorem cmdK_size : cmdK.put.size = 20 := by rw [Cmd.put_size cmdK_right]; rfl

set_option maxHeartbeats 400000 in
theorem alive10 (w : World) : Calls Tryz.prog 4 #[] w fun e w' => e = .returned (.bool true) ∧ Below w.heap.size w w' := by
  have P1 := fun w => command_put cmdK w (by decide)
  have hs := cmdK_size
  have P2 := fun w => command_get cmdK.put w (by rw [cmdK_size]; decide)
  rw [(get_put cmdK_right).2.1, (get_put cmdK_right).2.2] at P2
  rw [show cmdK.right = true from decide_eq_true cmdK_right] at P1
  generalize cmdK.put = B at *
  rw [show cmdK.v = .agg #[.int .i64 2, .string ⟨#[107]⟩, .string ⟨#[118]⟩, .int .i64 5, .int .i64 0] from rfl] at P1 P2
  have P3 := fun w => command_class 6 w
  have P4 := fun w => command_name 10 w
  rw [show classN 6 = 2 from rfl] at P3
  rw [show opNameS 10 = ⟨#[116, 116, 108]⟩ from rfl] at P4
  go_enter Tryz.func4, Tryz.ntmps4
  go_wp2_with fail
  with_reducible refine (P1 _).mono ?_
  rintro e w1 ⟨rfl, b1⟩
  have r1 := (CmdIs.new w cmdK).below b1
  replace b1 := bel_new b1
  go_wp2_with fail
  with_reducible refine (P2 _).mono ?_
  rintro e w2 ⟨rfl, b2⟩
  have r2 := r1.below b2
  replace b2 := bel_chain8 b1 b2
  obtain ⟨k0, k1, k2, k3, k4⟩ : w2.cell? ⟨w.heap.size, 0, none⟩ = some (.int .i64 2) ∧ w2.cell? ⟨w.heap.size, 1, none⟩ = some (.string ⟨#[107]⟩) ∧ w2.cell? ⟨w.heap.size, 2, none⟩ = some (.string ⟨#[118]⟩) ∧ w2.cell? ⟨w.heap.size, 3, none⟩ = some (.int .i64 5) ∧ w2.cell? ⟨w.heap.size, 4, none⟩ = some (.int .i64 0) := r2.cells
  have hlt := r2.lt
  clear b1 r1 r2
  go_wp2_with fail
  with_reducible refine (P3 _).mono ?_
  rintro e w3 ⟨rfl, rfl⟩
  go_wp2_with fail
  with_reducible refine (P4 _).mono ?_
  rintro e w4 ⟨rfl, b4⟩
  go_wp2
  go_ret
  exact ⟨rfl, bel_chain8 b2 (bel_new b4)⟩

end Go.Proofs.YtgcbanmjfnnccaaGreat
