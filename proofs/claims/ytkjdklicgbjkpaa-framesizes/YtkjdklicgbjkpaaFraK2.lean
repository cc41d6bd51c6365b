/-
  Package frame: cut and keep, over what strings.Clone tells.
-/
import Derived.Test.YtkjdklicgbjkpaaFraK0
import Derived.RegionTactic
namespace Go.Proofs.Ytkjdklicgbjkpaa
open Go.RowKit
set_option linter.unusedVariables false
set_option maxRecDepth 100000
set_option linter.unusedSimpArgs false

def CloneIs : Prop := ∀ (s : ByteArray) (w : World), s.size ≤ 1000000 → Calls Try.prog 59 #[.string s] w fun e w' => e = .returned (.string s) ∧ Below w.heap.size w w'

set_option maxHeartbeats 400000 in
theorem frame_cut (CL : CloneIs) (t : ByteArray) (w : World) (hs : t.size ≤ 1000000) (h2 : 2 ≤ t.size) (hle : ¬ t.size < 2 + headN t) :
    Calls Try.prog 21 #[.string t] w fun e w' => e = .returned (.tuple #[.string (t.extract 2 (2 + headN t)), .string (t.extract (2 + headN t) t.size)]) ∧ Below w.heap.size w w' := by
  have PL : Hid _ := fun w => frame_length t w h2
  have hh := headN_lt t h2
  have PC : Hid _ := fun w => CL (t.extract 2 (2 + headN t)) w (by rw [ByteArray.size_extract]; omega)
  have S1 := fun w => slice_mid9 t (headN t) w (by omega)
  have S2 := fun w => slice_end9 t (headN t) w (by omega)
  have hle2 := Nat.le_of_not_lt hle
  clear hle
  generalize headN t = N at *
  generalize t.extract 2 (2 + N) = X at *
  generalize t.extract (2 + N) t.size = Y at *
  go_enter Try.func21, Try.ntmps21
  go_wp2_with fail
  with_reducible refine (PL.out _).mono ?_
  rintro e w' ⟨rfl, rfl⟩
  go_wp2_with fail
  go_region_with (first | (go_at_call 59; with_reducible refine (PC.out _).mono ?_; rintro e w' ⟨rfl, b⟩))
  all_goals
    go_wp2
    go_ret2
    first
      | exact ⟨rfl, b⟩
      | exact ⟨rfl, (Below.refl _ _).drew.trans b⟩

theorem frame_keep (CL : CloneIs) (w : World) (p : Nat) (l s : ByteArray) (d : Bool) (x : Int) (hr : RowIs w p 31 (RdRow l d x)) (hs : s.size ≤ 1000000) :
    Calls Try.prog 22 #[.pointer (some ⟨p, 0, none⟩), .string s] w fun e w' => e = .returned (.tuple #[]) ∧ RowIs w' p 31 (RdRow (if d then ⟨#[]⟩ else s) d x) ∧ Touch (fun k => k = p) w w' := by
  have k1 : w.cell? ⟨p, 1, none⟩ = some (.bool d) := hr.cellAt rfl
  have hlt := hr.lt
  cases d with
  | false =>
    have PC : Hid _ := fun w => CL s w hs
    go_enter Try.func22, Try.ntmps22
    go_wp2_with fail
    with_reducible refine (PC.out _).mono ?_
    rintro e w' ⟨rfl, b⟩
    have hr2 := hr.below b hlt
    have z0 := hr2.frozen 0
    have q0 : w'.cell? ⟨p, 0, none⟩ = some (.string l) := hr2.cellAt rfl
    go_wp2
    go_end0
    exact ⟨rfl, hr2.set 0 _, (Touch.of_below (S := fun k => k = p) b).set (p := ⟨p, 0, none⟩) (Or.inl rfl) _⟩
  | true =>
    have PC : Hid _ := fun w => CL ⟨#[]⟩ w (by decide)
    go_enter Try.func22, Try.ntmps22
    go_wp2_with fail
    with_reducible refine (PC.out _).mono ?_
    rintro e w' ⟨rfl, b⟩
    have hr2 := hr.below b hlt
    have z0 := hr2.frozen 0
    have q0 : w'.cell? ⟨p, 0, none⟩ = some (.string l) := hr2.cellAt rfl
    go_wp2
    go_end0
    exact ⟨rfl, hr2.set 0 _, (Touch.of_below (S := fun k => k = p) b).set (p := ⟨p, 0, none⟩) (Or.inl rfl) _⟩

end Go.Proofs.Ytkjdklicgbjkpaa
