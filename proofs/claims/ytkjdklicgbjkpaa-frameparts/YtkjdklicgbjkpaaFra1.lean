/-
  Plain mathematics for chapter 9, on texts; what package frame's functions tell.
-/
import Derived.Test.YtkjdklicgbjkpaaFra0
import Derived.Test.YtkjdklicgbjkpaaPad0
import Derived.Test.YtkjdklicgbjkpaaRowT
import Derived.Test.YtkjdklicgbjkpaaBok0
import Derived.Deep.Draws
namespace Go.Proofs.Ytkjdklicgbjkpaa
open Go.RowKit
set_option linter.unusedVariables false
set_option maxRecDepth 100000
set_option linter.unusedSimpArgs false

/-- The frames at the beginning of a text, what is left, whether a length that follows may not be. -/
def framesS (s : ByteArray) : List ByteArray := (frames s.data.toList).1.map str
def leftS (s : ByteArray) : ByteArray := str (frames s.data.toList).2.1
def deadS (s : ByteArray) : Bool := (frames s.data.toList).2.2
theorem frames_short (b : ByteArray) (h : b.size < 2) : framesS b = [] ∧ leftS b = b ∧ deadS b = false := by
  have hl : b.data.toList.length = b.size := by simp
  unfold framesS leftS deadS
  match hb : b.data.toList with
  | [] => rw [frames_nil]; exact ⟨rfl, by rw [← str_back b, hb], rfl⟩
  | [x] => rw [frames_one]; exact ⟨rfl, by rw [← str_back b, hb], rfl⟩
  | x :: y :: r => rw [hb] at hl; simp at hl; omega
theorem two_of (b : ByteArray) (h : 2 ≤ b.size) : ∃ x y r, b.data.toList = x :: y :: r ∧ headN b = x.toNat * 256 + y.toNat ∧ r.length + 2 = b.size := by
  have hl : b.data.toList.length = b.size := by simp
  match hb : b.data.toList with
  | [] => rw [hb] at hl; simp at hl; omega
  | [x] => rw [hb] at hl; simp at hl; omega
  | x :: y :: r => exact ⟨x, y, r, rfl, head_list b x y r hb, by rw [hb] at hl; simpa using hl⟩
theorem frames_bad (b : ByteArray) (h : 2 ≤ b.size) (hn : headN b = 0 ∨ 2200 < headN b) : framesS b = [] ∧ leftS b = ⟨#[]⟩ ∧ deadS b = true := by
  obtain ⟨x, y, r, hb, hN, _⟩ := two_of b h
  unfold framesS leftS deadS
  rw [hb, frames_two, if_pos (by rw [← hN]; exact hn)]
  exact ⟨rfl, rfl, rfl⟩
theorem frames_part (b : ByteArray) (h : 2 ≤ b.size) (hn : ¬ (headN b = 0 ∨ 2200 < headN b)) (hs : b.size < 2 + headN b) : framesS b = [] ∧ leftS b = b ∧ deadS b = false := by
  obtain ⟨x, y, r, hb, hN, hr⟩ := two_of b h
  unfold framesS leftS deadS
  rw [hb, frames_two, if_neg (by rw [← hN]; exact hn), if_pos (by omega)]
  exact ⟨rfl, by rw [← str_back b, hb], rfl⟩
theorem frames_full (b : ByteArray) (h : 2 ≤ b.size) (hn : ¬ (headN b = 0 ∨ 2200 < headN b)) (hs : ¬ b.size < 2 + headN b) :
    framesS b = b.extract 2 (2 + headN b) :: framesS (b.extract (2 + headN b) b.size) ∧ leftS b = leftS (b.extract (2 + headN b) b.size) ∧ deadS b = deadS (b.extract (2 + headN b) b.size) := by
  obtain ⟨x, y, r, hb, hN, hr⟩ := two_of b h
  have e1 : b.extract 2 (2 + headN b) = str (r.take (x.toNat * 256 + y.toNat)) := by
    rw [← str_back (b.extract 2 (2 + headN b)), ByteArray.data_extract, Array.toList_extract, hb, hN]
    simp [List.extract]
  have e2 : (b.extract (2 + headN b) b.size).data.toList = r.drop (x.toNat * 256 + y.toNat) := by
    rw [ByteArray.data_extract, Array.toList_extract, hb, hN]
    have e3 : (x :: y :: r).drop (2 + (x.toNat * 256 + y.toNat)) = r.drop (x.toNat * 256 + y.toNat) := by rw [Nat.add_comm]; rfl
    rw [List.extract, e3]
    exact List.take_of_length_le (by rw [List.length_drop]; omega)
  unfold framesS leftS deadS
  rw [e1, e2, hb, frames_two, if_neg (by rw [← hN]; exact hn), if_neg (by omega)]
  exact ⟨rfl, rfl, rfl⟩

/-- What a Reader tells and holds behind bytes that came, dead or not. -/
def fedS (l : ByteArray) (d : Bool) (b : ByteArray) : List ByteArray := if d then [] else framesS (l ++ b)
def fedL (l : ByteArray) (d : Bool) (b : ByteArray) : ByteArray := if d then ⟨#[]⟩ else leftS (l ++ b)
def fedD (l : ByteArray) (d : Bool) (b : ByteArray) : Bool := if d then true else deadS (l ++ b)

/-- What package frame's functions tell. Rd w bl p l d: at p lies a Reader, in the blocks bl, in which the bytes l wait, and that is dead or not. -/
structure FrameKeeps where
  Rd : World → (Nat → Prop) → Nat → ByteArray → Bool → Prop
  lt : ∀ {w : World} {bl : Nat → Prop} {p : Nat} {l : ByteArray} {d : Bool}, Rd w bl p l d → ∀ k, bl k → p ≤ k ∧ k < w.heap.size
  touch : ∀ {S : Nat → Prop} {w w' : World} {bl : Nat → Prop} {p : Nat} {l : ByteArray} {d : Bool}, Rd w bl p l d → Touch S w w' → (∀ k, bl k → ¬ S k) → Rd w' bl p l d
  new : ∀ w : World, Rd (w.alloc (.cells #[.string ⟨#[]⟩, .bool false, .int .i64 0] 31)) (fun k => k = w.heap.size) w.heap.size ⟨#[]⟩ false
  feed : ∀ (w : World) (bl : Nat → Prop) (p : Nat) (l : ByteArray) (d : Bool) (b : ByteArray), Rd w bl p l d → (d = false → l.size + b.size ≤ 1000000) → (d = true → l = ⟨#[]⟩) →
    Calls Try.prog 10 #[.pointer (some ⟨p, 0, none⟩), .string b] w fun e w' => ∃ v bl', OwnT w' w.heap.size v (fedS l d b) ∧ e = .returned (.tuple #[v, .bool (!fedD l d b)]) ∧
      Rd w' bl' p (fedL l d b) (fedD l d b) ∧ (∀ k, bl' k → (bl k ∨ w.heap.size ≤ k) ∧ v.ownBlock ≠ some k) ∧ Touch bl w w'
  deadQ : ∀ (w : World) (bl : Nat → Prop) (p : Nat) (l : ByteArray) (d : Bool), Rd w bl p l d → Calls Try.prog 12 #[.pointer (some ⟨p, 0, none⟩)] w fun e w' => e = .returned (.bool d) ∧ ∃ m, w' = w.drewN m
  waitsQ : ∀ (w : World) (bl : Nat → Prop) (p : Nat) (l : ByteArray) (d : Bool), Rd w bl p l d → Calls Try.prog 13 #[.pointer (some ⟨p, 0, none⟩)] w fun e w' => e = .returned (.int .i64 (l.size : Int)) ∧ ∃ m, w' = w.drewN m
  feedNil : ∀ (w : World) (b : ByteArray), Calls Try.prog 10 #[.pointer none, .string b] w fun e w' => ∃ v, OwnT w' w.heap.size v [] ∧ e = .returned (.tuple #[v, .bool false]) ∧ Below w.heap.size w w'
  deadNil : ∀ w : World, Calls Try.prog 12 #[.pointer none] w fun e w' => e = .returned (.bool true) ∧ Below w.heap.size w w'
  waitsNil : ∀ w : World, Calls Try.prog 13 #[.pointer none] w fun e w' => e = .returned (.int .i64 0) ∧ Below w.heap.size w w'
  put : ∀ (b : ByteArray) (w : World), b.size ≤ 1000000 → Calls Try.prog 17 #[.string b] w fun e w' => e = .returned (.tuple #[.string (putFS b), .bool (putFOk b)]) ∧ Below w.heap.size w w'
theorem FrameKeeps.below (K : FrameKeeps) {w w' : World} {bl : Nat → Prop} {p : Nat} {l : ByteArray} {d : Bool} (h : K.Rd w bl p l d) (hb : Below w.heap.size w w') : K.Rd w' bl p l d :=
  K.touch h (Touch.of_below (S := fun _ => False) hb) (fun _ _ x => x)

theorem touch_drewN (S : Nat → Prop) (w : World) (m : Nat) : Touch S w (w.drewN m) := ⟨rfl, rfl, rfl, Nat.le_refl _, fun _ _ _ => rfl⟩
theorem FrameKeeps.dead (K : FrameKeeps) : ∀ (w : World) (bl : Nat → Prop) (p : Nat) (l : ByteArray) (d : Bool), K.Rd w bl p l d → Calls Try.prog 12 #[.pointer (some ⟨p, 0, none⟩)] w fun e w' => e = .returned (.bool d) ∧ K.Rd w' bl p l d ∧ Touch bl w w' := fun w bl p l d h =>
  (K.deadQ w bl p l d h).mono fun e w' hh => by
    obtain ⟨he, m, rfl⟩ := hh
    exact ⟨he, K.touch h (touch_drewN (fun _ => False) w m) (fun _ _ x => x), touch_drewN bl w m⟩
theorem FrameKeeps.waits (K : FrameKeeps) : ∀ (w : World) (bl : Nat → Prop) (p : Nat) (l : ByteArray) (d : Bool), K.Rd w bl p l d → Calls Try.prog 13 #[.pointer (some ⟨p, 0, none⟩)] w fun e w' => e = .returned (.int .i64 (l.size : Int)) ∧ K.Rd w' bl p l d ∧ Touch bl w w' := fun w bl p l d h =>
  (K.waitsQ w bl p l d h).mono fun e w' hh => by
    obtain ⟨he, m, rfl⟩ := hh
    exact ⟨he, K.touch h (touch_drewN (fun _ => False) w m) (fun _ _ x => x), touch_drewN bl w m⟩

theorem putFS_yes (b : ByteArray) (h1 : 1 ≤ b.size) (h2 : b.size ≤ 2200) : putFOk b = true ∧ putFS b = str (putFL b.data.toList) ∧ (putFS b).size = b.size + 2 := by
  have e : putFOk b = true := decide_eq_true ⟨h1, h2⟩
  have e2 : putFS b = str (putFL b.data.toList) := by unfold putFS; rw [e, if_pos rfl]
  exact ⟨e, e2, by rw [e2, str_size, putFL_len]; simp⟩
theorem putFS_no (b : ByteArray) (h : ¬ (1 ≤ b.size ∧ b.size ≤ 2200)) : putFOk b = false ∧ putFS b = ⟨#[]⟩ := by
  have e : putFOk b = false := decide_eq_false h
  exact ⟨e, by unfold putFS; rw [e]; rfl⟩

end Go.Proofs.Ytkjdklicgbjkpaa
