/-
  What package window's methods tell, and the laws' alive over it.
-/
import Derived.Test.YtmpmhepaonifpaaWin0
import Derived.Test.YtmpmhepaonifpaaMem0
import Derived.Test.YtmpmhepaonifpaaBok0
import Derived.Test.YtmpmhepaonifpaaRowI
import Derived.Deep.Draws
namespace Go.Proofs.Ytmpmhepaonifpaa
open Go.RowKit
set_option linter.unusedVariables false
set_option maxRecDepth 100000
set_option linter.unusedSimpArgs false

def I64W (x : Int) : Prop := -9223372036854775808 ≤ x ∧ x ≤ 9223372036854775807
/-- At w bl p s: at p lies a Window, in the blocks bl, in the state s. -/
structure WindowKeeps where
  At : World → (Nat → Prop) → Nat → Wn → Prop
  ok : ∀ {w : World} {bl : Nat → Prop} {p : Nat} {s : Wn}, At w bl p s → s.Ok
  lt : ∀ {w : World} {bl : Nat → Prop} {p : Nat} {s : Wn}, At w bl p s → ∀ k, bl k → p ≤ k ∧ k < w.heap.size
  touch : ∀ {S : Nat → Prop} {w w' : World} {bl : Nat → Prop} {p : Nat} {s : Wn}, At w bl p s → Touch S w w' → (∀ k, bl k → ¬ S k) → At w' bl p s
  new : ∀ w : World, At (w.alloc (.cells Try.zeroCells32 32)) (fun k => k = w.heap.size) w.heap.size Wn.zero
  take : ∀ (w : World) (bl : Nat → Prop) (p : Nat) (s : Wn) (x : Int), At w bl p s → s.n ≤ 1000000 → I64W x → Calls Try.prog 10 #[.pointer (some ⟨p, 0, none⟩), .int .i64 x] w fun e w' => e = .returned (.bool (s.may x)) ∧
    ∃ bl', At w' bl' p (s.take x) ∧ (∀ k, bl' k → bl k ∨ w.heap.size ≤ k) ∧ Touch bl w w'
  may : ∀ (w : World) (bl : Nat → Prop) (p : Nat) (s : Wn) (x : Int), At w bl p s → s.n ≤ 1000000 → I64W x → Calls Try.prog 9 #[.pointer (some ⟨p, 0, none⟩), .int .i64 x] w fun e w' => e = .returned (.bool (s.may x)) ∧
    ∃ bl', At w' bl' p s ∧ (∀ k, bl' k → bl k ∨ w.heap.size ≤ k) ∧ Touch bl w w'
  nextQ : ∀ (w : World) (bl : Nat → Prop) (p : Nat) (s : Wn), At w bl p s → s.n ≤ 1000000 → Calls Try.prog 13 #[.pointer (some ⟨p, 0, none⟩)] w fun e w' => e = .returned (.int .i64 (s.n : Int)) ∧ ∃ m, w' = w.drewN m
  ahead : ∀ (w : World) (bl : Nat → Prop) (p : Nat) (s : Wn), At w bl p s → s.n ≤ 1000000 → Calls Try.prog 11 #[.pointer (some ⟨p, 0, none⟩)] w fun e w' => ∃ v bl', e = .returned v ∧ OwnI w' w.heap.size v s.ahead ∧
    At w' bl' p s ∧ (∀ k, bl' k → (bl k ∨ w.heap.size ≤ k) ∧ v.ownBlock ≠ some k) ∧ Touch bl w w'
  mayNil : ∀ (w : World) (x : Int), Calls Try.prog 9 #[.pointer none, .int .i64 x] w fun e w' => e = .returned (.bool false) ∧ Below w.heap.size w w'
  takeNil : ∀ (w : World) (x : Int), Calls Try.prog 10 #[.pointer none, .int .i64 x] w fun e w' => e = .returned (.bool false) ∧ Below w.heap.size w w'
  nextNil : ∀ (w : World), Calls Try.prog 13 #[.pointer none] w fun e w' => e = .returned (.int .i64 0) ∧ Below w.heap.size w w'
  aheadNil : ∀ (w : World), Calls Try.prog 11 #[.pointer none] w fun e w' => (∃ a c, e = .returned (.slice a 0 c)) ∧ Below w.heap.size w w'

theorem touch_drewNW (S : Nat → Prop) (w : World) (m : Nat) : Touch S w (w.drewN m) := ⟨rfl, rfl, rfl, Nat.le_refl _, fun _ _ _ => rfl⟩
theorem WindowKeeps.next (K : WindowKeeps) (w : World) (bl : Nat → Prop) (p : Nat) (s : Wn) (h : K.At w bl p s) (hn : s.n ≤ 1000000) : Calls Try.prog 13 #[.pointer (some ⟨p, 0, none⟩)] w fun e w' => e = .returned (.int .i64 (s.n : Int)) ∧
    ∃ bl', K.At w' bl' p s ∧ (∀ k, bl' k → bl k ∨ w.heap.size ≤ k) ∧ Touch bl w w' :=
  (K.nextQ w bl p s h hn).mono fun e w' hh => by
    obtain ⟨he, m, rfl⟩ := hh
    exact ⟨he, bl, K.touch h (touch_drewNW (fun _ => False) w m) (fun _ _ x => x), fun k hk => Or.inl hk, touch_drewNW bl w m⟩

/-- A Window that lies behind B, and all that was done since lies behind B. -/
structure WinAt (K : WindowKeeps) (w0 : World) (B p : Nat) (s : Wn) (w : World) : Prop where
  at_ : ∃ bl, K.At w bl p s
  le : B ≤ p
  bel : Below B w0 w
  sz : B ≤ w.heap.size
section
variable {K : WindowKeeps} {w0 : World} {B p : Nat} {s : Wn} {w : World}
theorem WinAt.ok (h : WinAt K w0 B p s w) : s.Ok := by
  obtain ⟨bl, ha⟩ := h.at_
  exact K.ok ha
theorem WinAt.new (h : Below B w0 w) (hB : B ≤ w.heap.size) : WinAt K w0 B w.heap.size Wn.zero (w.alloc (.cells Try.zeroCells32 32)) :=
  ⟨⟨_, K.new w⟩, hB, h.alloc hB _, by simp; omega⟩
theorem WinAt.below {w' : World} (h : WinAt K w0 B p s w) (hb : Below w.heap.size w w') : WinAt K w0 B p s w' := by
  obtain ⟨bl, ha⟩ := h.at_
  exact ⟨⟨bl, K.touch ha (Touch.of_below (S := fun _ => False) hb) (fun _ _ x => x)⟩, h.le, h.bel.trans (hb.mono h.sz), Nat.le_trans h.sz hb.size⟩
theorem WinAt.step {w' : World} {bl bl' : Nat → Prop} {s' : Wn} (h : WinAt K w0 B p s w) (ha : K.At w bl p s) (ha' : K.At w' bl' p s') (ht : Touch bl w w') : WinAt K w0 B p s' w' :=
  ⟨⟨bl', ha'⟩, h.le, h.bel.trans (ht.below (fun k hk => Nat.le_trans h.le (K.lt ha k hk).1) h.sz), Nat.le_trans h.sz ht.size⟩
theorem WinAt.take (h : WinAt K w0 B p s w) (x : Int) (hn : s.n ≤ 1000000) (hx : I64W x) : Calls Try.prog 10 #[.pointer (some ⟨p, 0, none⟩), .int .i64 x] w fun e w' => e = .returned (.bool (s.may x)) ∧ WinAt K w0 B p (s.take x) w' := by
  obtain ⟨bl, ha⟩ := h.at_
  refine (K.take w bl p s x ha hn hx).mono ?_
  rintro e w' ⟨rfl, bl', ha', _, ht⟩
  exact ⟨rfl, h.step ha ha' ht⟩
theorem WinAt.may (h : WinAt K w0 B p s w) (x : Int) (hn : s.n ≤ 1000000) (hx : I64W x) : Calls Try.prog 9 #[.pointer (some ⟨p, 0, none⟩), .int .i64 x] w fun e w' => e = .returned (.bool (s.may x)) ∧ WinAt K w0 B p s w' := by
  obtain ⟨bl, ha⟩ := h.at_
  refine (K.may w bl p s x ha hn hx).mono ?_
  rintro e w' ⟨rfl, bl', ha', _, ht⟩
  exact ⟨rfl, h.step ha ha' ht⟩
theorem WinAt.next (h : WinAt K w0 B p s w) (hn : s.n ≤ 1000000) : Calls Try.prog 13 #[.pointer (some ⟨p, 0, none⟩)] w fun e w' => e = .returned (.int .i64 (s.n : Int)) ∧ WinAt K w0 B p s w' := by
  obtain ⟨bl, ha⟩ := h.at_
  refine (K.next w bl p s ha hn).mono ?_
  rintro e w' ⟨rfl, bl', ha', _, ht⟩
  exact ⟨rfl, h.step ha ha' ht⟩
theorem WinAt.ahead (h : WinAt K w0 B p s w) (hn : s.n ≤ 1000000) : Calls Try.prog 11 #[.pointer (some ⟨p, 0, none⟩)] w fun e w' => ∃ a c, e = .returned (.slice a s.ahead.length c) ∧ OwnI w' B (.slice a s.ahead.length c) s.ahead ∧ WinAt K w0 B p s w' := by
  obtain ⟨bl, ha⟩ := h.at_
  refine (K.ahead w bl p s ha hn).mono ?_
  rintro e w' ⟨v, bl', rfl, ho, ha', _, ht⟩
  obtain ⟨a, c, rfl⟩ := ho.shape
  exact ⟨a, c, rfl, ho.base h.sz, h.step ha ha' ht⟩
end

theorem i64w {x : Int} (h : -9223372036854775808 ≤ x) (h2 : x ≤ 9223372036854775807) : I64W x := ⟨h, h2⟩
/-- What alive asks. -/
theorem alive_s : Wn.zero.may 1 = true ∧ (Wn.zero.take 1).may 0 = true ∧ ((Wn.zero.take 1).take 0).n = 2 ∧ ((Wn.zero.take 1).take 0).may 1 = false ∧ ((Wn.zero.take 1).take 0).may 65 = true ∧ ((Wn.zero.take 1).take 0).may 66 = false ∧ (Wn.zero.take 1).n = 0 := by decide +kernel

set_option maxHeartbeats 1000000 in
theorem alive11_of (K : WindowKeeps) (w : World) : Calls Try.prog 8 #[] w fun e w' => e = .returned (.bool true) ∧ Below w.heap.size w w' := by
  obtain ⟨q1, q2, q3, q4, q5, q6, q7⟩ := alive_s
  have q0 : Wn.zero.n = 0 := rfl
  have H0 : WinAt K w w.heap.size w.heap.size Wn.zero (w.alloc (.cells Try.zeroCells32 32)) := WinAt.new (Below.refl _ _) (Nat.le_refl _)
  have T1 : Hid _ := fun w1 (h : WinAt K w w.heap.size w.heap.size Wn.zero w1) => h.take 1 (by rw [q0]; decide) (i64w (by decide) (by decide))
  have T2 : Hid _ := fun w1 (h : WinAt K w w.heap.size w.heap.size (Wn.zero.take 1) w1) => h.take 0 (by rw [q7]; decide) (i64w (by decide) (by decide))
  have N1 : Hid _ := fun w1 (h : WinAt K w w.heap.size w.heap.size ((Wn.zero.take 1).take 0) w1) => h.next (by rw [q3]; decide)
  have M1 : Hid _ := fun x (hx : I64W x) w1 (h : WinAt K w w.heap.size w.heap.size ((Wn.zero.take 1).take 0) w1) => h.may x (by rw [q3]; decide) hx
  rw [q1] at T1
  rw [q2] at T2
  rw [q3] at N1
  have X1 : Hid (((Wn.zero.take 1).take 0).may 1 = false) := q4
  have X2 : Hid (((Wn.zero.take 1).take 0).may 65 = true) := q5
  have X3 : Hid (((Wn.zero.take 1).take 0).may 66 = false) := q6
  clear q0 q1 q2 q3 q4 q5 q6 q7
  generalize (Wn.zero.take 1).take 0 = s2 at *
  generalize Wn.zero.take 1 = s1 at *
  have H0H : Hid _ := H0
  clear H0
  go_enter Try.func8, Try.ntmps8
  go_wp2_with fail
  with_reducible refine (T1.out _ H0H.out).mono ?_
  rintro e w1 ⟨rfl, h1⟩
  clear H0H
  go_wp2_with fail
  with_reducible refine (T2.out _ h1).mono ?_
  rintro e w2 ⟨rfl, h2⟩
  clear h1
  go_wp2_with fail
  with_reducible refine (N1.out _ h2).mono ?_
  rintro e w3 ⟨rfl, h3⟩
  clear h2
  go_wp2_with fail
  have P := M1.out 1 (i64w (by decide) (by decide)) _ h3
  rw [X1.out] at P
  with_reducible refine P.mono ?_
  rintro e w4 ⟨rfl, h4⟩
  clear h3 P
  go_wp2_with fail
  have P := M1.out 65 (i64w (by decide) (by decide)) _ h4
  rw [X2.out] at P
  with_reducible refine P.mono ?_
  rintro e w5 ⟨rfl, h5⟩
  clear h4 P
  go_wp2_with fail
  have P := M1.out 66 (i64w (by decide) (by decide)) _ h5
  rw [X3.out] at P
  with_reducible refine P.mono ?_
  rintro e w6 ⟨rfl, h6⟩
  clear h5 P
  go_wp2
  go_ret
  exact ⟨rfl, h6.bel⟩

end Go.Proofs.Ytmpmhepaonifpaa
