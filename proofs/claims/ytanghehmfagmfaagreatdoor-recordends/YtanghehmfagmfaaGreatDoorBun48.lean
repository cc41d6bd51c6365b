/-
  Parts of this proof, one behind the other: PadL.
-/
import Derived.Test.YtanghehmfagmfaaGreatDoorBun15
import Derived.Test.YtanghehmfagmfaaGreatDoorBun27
import Derived.Test.YtanghehmfagmfaaGreatDoorBun34

/-
  The sizes of one call: made once, the least of them that fits.
-/
namespace Go.Proofs.YtanghehmfagmfaaGreatDoor
open Go.RowKit
set_option linter.unusedVariables false
set_option maxRecDepth 100000
set_option linter.unusedSimpArgs false

theorem frozen_alloc8 {w : World} {g j : Nat} (h : w.frozen? ⟨g, j, none⟩ = false) (hg : g < w.heap.size) (ob : Obj) : (w.alloc ob).frozen? ⟨g, j, none⟩ = false := by
  rw [World.frozen?_of_block (a := ⟨g, j, none⟩) (Below.heap_alloc w ob g hg)]
  exact h
/-- The lengths of a call that has not asked for them yet; that has. -/
def szNew : List Value := [.int .u32 0, .int .i32 0, .int .u32 0, .slice none 0 0]
def szDone (h : Nat) : List Value := [.int .u32 1, .int .i32 0, .int .u32 0, .slice (some ⟨h, 0, none⟩) 4 4]
structure Sz (w : World) (g h : Nat) : Prop where
  obj : RowIs w g 142 (szDone h)
  row : RowIs w h 3 (cellsI sizesL)

theorem sizes_clo (p g : Nat) (x : Value) (w : World) (hp : w.cell? ⟨p, 0, none⟩ = some (.pointer (some ⟨g, 0, none⟩))) (hc : w.cell? ⟨g, 3, none⟩ = some x) (hf : w.frozen? ⟨g, 3, none⟩ = false) :
    Calls Tryz.prog 153 #[.pointer (some ⟨p, 0, none⟩)] w fun e w' => e = .returned (.tuple #[]) ∧ w' = (w.alloc (.cells #[.int .i64 32, .int .i64 128, .int .i64 512, .int .i64 2048] 3)).setCell ⟨g, 3, none⟩ (.slice (some ⟨w.heap.size, 0, none⟩) 4 4) := by
  have hca := cell_alloc9 hc
  have hfa := frozen_alloc8 hf (World.block_lt_of_cell? w ⟨g, 3, none⟩ hc)
  go_enter Tryz.func153, Tryz.ntmps153
  go_wp2
  go_end0
  exact ⟨rfl, rfl⟩
theorem callFunc_sizes (p : Value) (w : World) : (callFunc 153 (#[] ++ #[p])).run Tryz.prog w = .ok (.enter 153 #[p]) w := by
  simp [go_sem]

theorem sizes_list_first (g base : Nat) (w : World) (hb : base ≤ g) (r1 : RowIs w g 142 szNew) :
    Calls Tryz.prog 108 #[.pointer (some ⟨g, 0, none⟩)] w fun e w' => (∃ h, Sz w' g h ∧ base ≤ h ∧ e = .returned (.slice (some ⟨h, 0, none⟩) 4 4)) ∧ Below base w w' := by
  have hlt := r1.lt
  have rp := RowIs.new w 197 [.pointer (some ⟨g, 0, none⟩)]
  have r2 := r1.alloc (.cells #[.pointer (some ⟨g, 0, none⟩)] 197)
  have b2 : Below base w (w.alloc (.cells #[.pointer (some ⟨g, 0, none⟩)] 197)) := (Below.refl _ _).alloc (by omega) _
  have hz : (w.alloc (.cells #[.pointer (some ⟨g, 0, none⟩)] 197)).heap.size = w.heap.size + 1 := by simp
  go_enter Tryz.func108, Tryz.ntmps108
  go_wp2_with fail
  generalize hp : w.heap.size = p at *
  rw [show (#[Value.pointer (some ⟨g, 0, none⟩)] : Array Value) = [Value.pointer (some ⟨g, 0, none⟩)].toArray from rfl] at *
  generalize w.alloc (.cells [Value.pointer (some ⟨g, 0, none⟩)].toArray 197) = w2 at *
  have r2' := r2.set 1 (.int .i32 1)
  have rp' : RowIs (w2.setCell ⟨g, 1, none⟩ (.int .i32 1)) p 197 [.pointer (some ⟨g, 0, none⟩)] := rp.setOther (by simp; omega) _
  have b2' : Below base w (w2.setCell ⟨g, 1, none⟩ (.int .i32 1)) := b2.setCell hb _
  have hz' : (w2.setCell ⟨g, 1, none⟩ (.int .i32 1)).heap.size = p + 1 := by simpa [World.setCell] using hz
  have hclo := sizes_clo p g _ _ (rp'.cellAt rfl) (r2'.cellAt rfl) (r2'.frozen 3)
  rw [hz'] at hclo
  refine (once_first g 0 153 #[] #[.pointer (some ⟨p, 0, none⟩)] #[.pointer (some ⟨p, 0, none⟩)] (fun w' => RowIs w' g 142 [.int .u32 0, .int .i32 1, .int .u32 0, .slice (some ⟨p + 1, 0, none⟩) 4 4] ∧ RowIs w' p 197 [.pointer (some ⟨g, 0, none⟩)] ∧ RowIs w' (p + 1) 3 (cellsI sizesL) ∧ Below base w w') w2 (fun w' => callFunc_sizes _ w') (r2.cellAt rfl) (r2.cellAt rfl) (r2.frozen 0) (r2.frozen 1) ?_).mono ?_
  · refine hclo.mono ?_
    rintro e w' ⟨rfl, rfl⟩
    have q1 := (r2'.alloc (.cells #[.int .i64 32, .int .i64 128, .int .i64 512, .int .i64 2048] 3)).set 3 (.slice (some ⟨p + 1, 0, none⟩) 4 4)
    have q2 := (rp'.alloc (.cells #[.int .i64 32, .int .i64 128, .int .i64 512, .int .i64 2048] 3)).setOther (a := ⟨g, 3, none⟩) (by simp; omega) (.slice (some ⟨p + 1, 0, none⟩) 4 4)
    have q3 := RowIs.new (w2.setCell ⟨g, 1, none⟩ (.int .i32 1)) 3 (cellsI sizesL)
    rw [hz'] at q3
    have q4 := q3.setOther (a := ⟨g, 3, none⟩) (by simp; omega) (.slice (some ⟨p + 1, 0, none⟩) 4 4)
    exact ⟨rfl, q1.cellAt rfl, q1.cellAt rfl, q1.frozen 0, q1.frozen 1, q1, q2, q4, (b2'.alloc (by rw [hz']; omega) _).setCell hb _⟩
  · rintro e w' ⟨rfl, w4, ⟨q1, q2, q3, q4⟩, rfl⟩
    have s1 : RowIs ((w4.drew.setCell ⟨g, 0, none⟩ (.int .u32 1)).setCell ⟨g, 0 + 1, none⟩ (.int .i32 0)) g 142 (szDone (p + 1)) := (q1.drew.set 0 (.int .u32 1)).set 1 (.int .i32 0)
    have s2 : RowIs ((w4.drew.setCell ⟨g, 0, none⟩ (.int .u32 1)).setCell ⟨g, 0 + 1, none⟩ (.int .i32 0)) p 197 [.pointer (some ⟨g, 0, none⟩)] := ((q2.drew).setOther (a := ⟨g, 0, none⟩) (by simp; omega) _).setOther (a := ⟨g, 0 + 1, none⟩) (by simp; omega) _
    have s3 : RowIs ((w4.drew.setCell ⟨g, 0, none⟩ (.int .u32 1)).setCell ⟨g, 0 + 1, none⟩ (.int .i32 0)) (p + 1) 3 (cellsI sizesL) := ((q3.drew).setOther (a := ⟨g, 0, none⟩) (by simp; omega) _).setOther (a := ⟨g, 0 + 1, none⟩) (by simp; omega) _
    have s4 : Below base w ((w4.drew.setCell ⟨g, 0, none⟩ (.int .u32 1)).setCell ⟨g, 0 + 1, none⟩ (.int .i32 0)) := ((q4.drew).setCell hb _).setCell hb _
    clear q1 q2 q3 q4 r1 r2 rp rp' r2' b2 b2' hz hz' hclo
    generalize (w4.drew.setCell ⟨g, 0, none⟩ (.int .u32 1)).setCell ⟨g, 0 + 1, none⟩ (.int .i32 0) = w5 at *
    have c1 := s2.cellAt (j := 0) rfl
    have c2 : w5.cell? ⟨g, 3, none⟩ = some (.slice (some ⟨p + 1, 0, none⟩) 4 4) := s1.cellAt rfl
    go_wp2
    go_ret
    exact ⟨⟨p + 1, ⟨s1, s3⟩, by omega, rfl⟩, s4⟩

theorem sizes_list_again (g h base : Nat) (w : World) (hb : base ≤ w.heap.size) (hs : Sz w g h) :
    Calls Tryz.prog 108 #[.pointer (some ⟨g, 0, none⟩)] w fun e w' => (∃ h, Sz w' g h ∧ e = .returned (.slice (some ⟨h, 0, none⟩) 4 4)) ∧ Below base w w' := by
  have hlt := hs.obj.lt
  have rp := RowIs.new w 197 [.pointer (some ⟨g, 0, none⟩)]
  have r2 := hs.obj.alloc (.cells #[.pointer (some ⟨g, 0, none⟩)] 197)
  have r3 := hs.row.alloc (.cells #[.pointer (some ⟨g, 0, none⟩)] 197)
  have b2 : Below base w (w.alloc (.cells #[.pointer (some ⟨g, 0, none⟩)] 197)) := (Below.refl _ _).alloc hb _
  go_enter Tryz.func108, Tryz.ntmps108
  go_wp2_with fail
  generalize hp : w.heap.size = p at *
  rw [show (#[Value.pointer (some ⟨g, 0, none⟩)] : Array Value) = [Value.pointer (some ⟨g, 0, none⟩)].toArray from rfl] at *
  generalize w.alloc (.cells [Value.pointer (some ⟨g, 0, none⟩)].toArray 197) = w2 at *
  refine (once_done ⟨g, 0, none⟩ 1 (by decide) _ w2 (r2.cellAt rfl)).mono ?_
  rintro e w' ⟨rfl, rfl⟩
  have c1 := rp.cellAt (j := 0) rfl
  have c2 : w2.cell? ⟨g, 3, none⟩ = some (.slice (some ⟨h, 0, none⟩) 4 4) := r2.cellAt rfl
  go_wp2
  go_ret
  exact ⟨⟨h, ⟨r2, r3⟩, rfl⟩, b2⟩

theorem ret_is8 {x y : Int} {a b : Bool} (h : x = y) (h2 : a = b) : Ending.returned (.tuple #[.int .i64 x, .bool a]) = .returned (.tuple #[.int .i64 y, .bool b]) := by rw [h, h2]
theorem least_at (n : Int) (k : Nat) (h0 : 0 ≤ n) (hk : k < 4) (h1 : 0 < k → 30 < n) (h2 : 1 < k → 126 < n) (h3 : 2 < k → 510 < n) (hn : n ≤ sizesL.getD k 0 - 2) :
    sizeN n = sizesL.getD k 0 ∧ sizeOk n = true := by
  have hc : k = 0 ∨ k = 1 ∨ k = 2 ∨ k = 3 := by omega
  unfold sizeN sizeOk
  rw [if_neg (by omega)]
  rcases hc with rfl | rfl | rfl | rfl <;> simp only [sizesL, List.getD, List.getElem?_cons_zero, List.getElem?_cons_succ, Option.getD] at hn ⊢
  · rw [if_pos (by omega)]; exact ⟨rfl, decide_eq_true (by omega)⟩
  · rw [if_neg (by omega), if_pos (by omega)]; exact ⟨rfl, decide_eq_true (by omega)⟩
  · rw [if_neg (by omega), if_neg (by omega), if_pos (by omega)]; exact ⟨rfl, decide_eq_true (by omega)⟩
  · rw [if_neg (by omega), if_neg (by omega), if_neg (by omega), if_pos (by omega)]; exact ⟨rfl, decide_eq_true (by omega)⟩
theorem sizesL_bd (k : Nat) (hk : k < 4) : 32 ≤ sizesL.getD k 0 ∧ sizesL.getD k 0 ≤ 2048 := by
  have hc : k = 0 ∨ k = 1 ∨ k = 2 ∨ k = 3 := by omega
  rcases hc with rfl | rfl | rfl | rfl <;> decide

set_option maxHeartbeats 1000000 in
theorem sizes_least (g base : Nat) (n : Int) (w : World) (h0 : -9223372036854775808 ≤ n) (h1 : n ≤ 9223372036854775807)
    (hl : Calls Tryz.prog 108 #[.pointer (some ⟨g, 0, none⟩)] w fun e w' => (∃ h, Sz w' g h ∧ e = .returned (.slice (some ⟨h, 0, none⟩) 4 4)) ∧ Below base w w') :
    Calls Tryz.prog 109 #[.pointer (some ⟨g, 0, none⟩), .int .i64 n] w fun e w' => e = .returned (.tuple #[.int .i64 (sizeN n), .bool (sizeOk n)]) ∧ Below base w w' := by
  by_cases hn : n < 0
  · have d : decide (n < 0) = true := decide_eq_true hn
    rw [sizeN_no n (by omega), show sizeOk n = false from decide_eq_false (by omega)]
    go_enter Tryz.func109, Tryz.ntmps109
    go_wp2
    go_ret2
    exact ⟨rfl, Below.refl _ _⟩
  · have d : decide (n < 0) = false := decide_eq_false hn
    go_enter Tryz.func109, Tryz.ntmps109
    go_wp2_with fail
    refine hl.mono ?_
    rintro e w1 ⟨⟨h, hs, rfl⟩, b⟩
    have cs : ∀ k, k < 4 → w1.cell? ⟨h, k, none⟩ = some (.int .i64 (sizesL.getD k 0)) := fun k hk => hs.row.cellAt (cellsI_at sizesL k hk)
    have CS : Hid _ := cs
    clear cs hs hl
    go_wp2_with fail
    go_loopw [13] (fun i wr => ∃ k : Nat, k ≤ 4 ∧ i = .int .i64 k ∧ wr = w1 ∧ (0 < k → 30 < n) ∧ (1 < k → 126 < n) ∧ (2 < k → 510 < n) ∧ (3 < k → 2046 < n)) (fun i _ => 4 - (intOf i).toNat)
    case atStart => exact ⟨0, by omega, rfl, rfl, by omega, by omega, by omega, by omega⟩
    case round =>
      obtain ⟨k, hk, rfl, rfl, k1, k2, k3, k4⟩ := hrel
      by_cases hlt : k < 4
      · have c1 := CS.out k hlt
        have hbd := sizesL_bd k hlt
        have d1 : decide ((k : Int) < 4) = true := by simp; omega
        have d2 : (k : Int) < 4 := by omega
        have hx : sizesL.getD k 0 - 2 < n → (0 < k + 1 → 30 < n) ∧ (1 < k + 1 → 126 < n) ∧ (2 < k + 1 → 510 < n) ∧ (3 < k + 1 → 2046 < n) := by
          have hc : k = 0 ∨ k = 1 ∨ k = 2 ∨ k = 3 := by omega
          rcases hc with rfl | rfl | rfl | rfl <;> simp [sizesL] <;> omega
        have hy := least_at n k (by omega) hlt k1 k2 k3
        have HX : Hid _ := hx
        have HY : Hid _ := hy
        clear hx hy k1 k2 k3 k4
        generalize sizesL.getD k 0 = X at *
        have hw : wrap64 (X - 2) = X - 2 := IntWalk.wrap64_in _ ⟨by omega, by omega⟩
        by_cases hle : n ≤ X - 2
        · have d3 : decide (n ≤ X - 2) = true := decide_eq_true hle
          go_wp2
          go_ret2
          exact ⟨ret_is8 (HY.out hle).1.symm (HY.out hle).2.symm, b⟩
        · have d3 : decide (n ≤ X - 2) = false := decide_eq_false hle
          go_wp2
          go_roundw
          case rel => exact ⟨k + 1, by omega, by go_num, trivial, HX.out (by omega)⟩
          case measure => simp [intOf]; omega
      · obtain rfl : k = 4 := by omega
        have k5 := k4 (by omega)
        have e1 : Hid (0 = sizeN n) := (sizeN_no n (by omega)).symm
        have e2 : Hid (false = sizeOk n) := (show sizeOk n = false from decide_eq_false (by omega)).symm
        go_wp2
        go_ret2
        exact ⟨ret_is8 e1.out e2.out, b⟩

end Go.Proofs.YtanghehmfagmfaaGreatDoor
