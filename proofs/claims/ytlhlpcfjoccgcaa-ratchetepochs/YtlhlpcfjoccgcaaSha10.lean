/-
  A Digest that is built, and the contract of the closure inside Copy.
-/
import Derived.Test.YtlhlpcfjoccgcaaSha9
namespace Go.Proofs.Ytlhlpcfjoccgcaa
open Go.RowKit
set_option linter.unusedVariables false
set_option maxRecDepth 100000

theorem fold_put : ∀ (cs : List Value) (k off : Nat) (row : List Value), off + k + cs.length ≤ row.length → (cs.zipIdx k).foldl (fun (acc : Array Value) p => acc.setIfInBounds (off + p.2) p.1) row.toArray = (putAt row (off + k) cs).toArray
  | [], k, off, row, _ => by simp [putAt]
  | c :: r, k, off, row, h => by
    rw [List.zipIdx_cons, List.foldl_cons, List.setIfInBounds_toArray, fold_put r (k + 1) off (row.set (off + k) c) (by simp at h ⊢; omega)]
    have e := list_seg_step row (off + k) c r (by simpa using h)
    unfold putAt
    rw [show off + (k + 1) = off + k + 1 from by omega, e, List.length_cons]
theorem fill_step (place : Nat → Option (Nat × Nat)) (row cs : List Value) (i off : Nat) (rest : List (Nat × Value)) (hp : place i = some (off, cs.length)) (hl : off + cs.length ≤ row.length) (v : Value) (hv : v.cells = cs.toArray) :
    Instr.fill place row.toArray ((i, v) :: rest) = Instr.fill place (putAt row off cs).toArray rest := by
  have hf := fold_put cs 0 off row (by omega)
  rw [Nat.add_zero] at hf
  rw [Instr.fill, hp]
  simp only [hv]
  rw [if_neg (by simp; omega)]
  congr 1
  rw [← hf]
  simp

def digZero : List Value := digRow 0 0 z64 z8 (zeros8 64) 0
theorem zero43 : (Try.prog.info? 91).map (·.zero) = some (some (.agg digZero.toArray)) := by kernel_rfl
theorem run_alloc43 (w : World) : (Instr.alloc 91 true (.tuple #[])).run Try.prog w = .ok (.pointer (some ⟨w.heap.size, 0, none⟩)) (w.alloc (.cells digZero.toArray 91)) := by
  obtain ⟨i, hi, hz⟩ := zero_parts zero43
  exact run_alloc_zero _ i _ hi hz w
theorem fresh_new (w : World) : DigAt (w.alloc (.cells digZero.toArray 91)) w.heap.size [] :=
  Or.inr ⟨rfl, z64, z8, zeros8 64, rfl, rfl, rfl, RowIs.new w _ _⟩
def places43 : List (Nat × Nat) := [(0, 3), (3, 64), (67, 8), (75, 64), (139, 1)]
theorem fields43 : (match Try.prog.underlying 91 with | some (.struct fields) => fields.toList.mapM (fun f => (Try.prog.info? f.type).map fun i => (f.offset, i.size)) | _ => none) = some places43 := by kernel_rfl
theorem built43 (blk : List UInt8) (n : Int) (hb : blk.length = 64) (L : Nat) (hn : n = L) : Try.prog.built 91 [(3, .agg (cells8 blk).toArray), (4, .int .i64 n)] = some (digRow 0 0 z64 z8 blk L).toArray := by
  subst hn
  obtain ⟨i, hi, hz⟩ := zero_parts zero43
  have hf := fields43
  unfold Program.built
  cases hu : Try.prog.underlying 91 with
  | none => rw [hu] at hf; simp at hf
  | some d =>
    rw [hu] at hf
    cases d with
    | struct fields =>
      simp only at hf
      simp only [hi, hz, hf]
      rw [show (Value.agg digZero.toArray).cells = digZero.toArray from rfl]
      rw [fill_step _ digZero (cells8 blk) 3 75 _ (by rw [cells8_len, hb]; rfl) (by rw [cells8_len, hb, digZero, digRow_len z64_len z8_len (zeros8_len 64)]; omega) _ rfl]
      rw [show putAt digZero 75 (cells8 blk) = digRow 0 0 z64 z8 blk 0 from by
        have := digRow_putBlk (done := 0) (mu := 0) (tab := z64) (st := z8) (blk := zeros8 64) (len := 0) 0 blk z64_len z8_len (by rw [zeros8_len]; omega)
        rw [Nat.add_zero] at this
        rw [digZero, this]
        congr 1
        simp [over, zeros8, hb]]
      rw [fill_step _ (digRow 0 0 z64 z8 blk 0) [.int .i64 (L : Int)] 4 139 _ rfl (by rw [digRow_len z64_len z8_len hb]; simp) _ rfl, Instr.fill]
      congr 2
      have hs := digRow_setLen (done := 0) (mu := 0) (len := 0) L z64_len z8_len hb
      rw [← hs]
      unfold putAt
      rw [List.set_eq_take_append_cons_drop, if_pos (by rw [digRow_len z64_len z8_len hb]; omega)]
      simp
    | _ => simp at hf
theorem run_build43 (blk : List UInt8) (hb : blk.length = 64) (L : Nat) (w : World) : (Instr.build 91 #[(3, .agg (cells8 blk).toArray), (4, .int .i64 (L : Int))]).run Try.prog w = .ok (.agg (digRow 0 0 z64 z8 blk L).toArray) w :=
  run_build w _ _ _ (built43 blk _ hb L rfl)

end Go.Proofs.Ytlhlpcfjoccgcaa
