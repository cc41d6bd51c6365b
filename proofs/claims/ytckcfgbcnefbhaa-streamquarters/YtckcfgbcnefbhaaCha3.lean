/-
  The contract of package stream's doubleRound: its eight regions in a row.
-/
import Derived.Test.YtckcfgbcnefbhaaCha2
namespace Go.Proofs.Ytckcfgbcnefbhaa
open Go.RowKit
set_option linter.unusedVariables false
set_option maxRecDepth 100000

set_option maxRecDepth 100000 in
set_option maxHeartbeats 2000000 in
theorem stream_doubleRound (g : Nat) (s : List Int) (w : World) (hl : s.length = 16) (hw : allW s) (hr : RowIs w g 41 (cells32 s)) :
    Calls Try.prog 21 #[.pointer (some ⟨g, 0, none⟩)] w fun e w' => e = .returned (.tuple #[]) ∧ RowIs w' g 41 (cells32 (dblTo s 8)) ∧ Upon g w w' := by
  go_enter Try.func21, Try.ntmps21
  have u0 : Upon g w w := Upon.refl g w
  have r0 : RowIs w g 41 (cells32 (dblTo s 0)) := hr
  refine wp_seq (quarter_region 0 0 4 8 12 (by decide) (by decide) (by decide) (by decide) (by kernel_rfl) (by kernel_rfl) (fun _ _ d _ _ h => by cases d <;> exact h) g (dblTo s 0) _ _ (by rw [dblTo_len, hl]) (dblTo_w hw 0) r0 (fun n hn => by show 0 + n < 274; omega) rfl ?_)
  intro b1 w1 z1 e1 d1 r1 u1
  replace z1 : b1.tmps.size = 274 := z1
  replace d1 : b1.defers = [] := d1
  replace r1 : RowIs w1 g 41 (cells32 (dblTo s 1)) := r1
  replace u1 := u0.trans u1
  show Code.wp _ _ _ b1 w1
  refine wp_seq (quarter_region 34 1 5 9 13 (by decide) (by decide) (by decide) (by decide) (by kernel_rfl) (by kernel_rfl) (fun _ _ d _ _ h => by cases d <;> exact h) g (dblTo s 1) _ _ (by rw [dblTo_len, hl]) (dblTo_w hw 1) r1 (fun n hn => by rw [z1]; omega) e1 ?_)
  intro b2 w2 z2 e2 d2 r2 u2
  replace z2 : b2.tmps.size = 274 := z2.trans z1
  replace d2 : b2.defers = [] := d2.trans d1
  replace r2 : RowIs w2 g 41 (cells32 (dblTo s 2)) := r2
  replace u2 := u1.trans u2
  clear z1 e1 d1 r1 u1
  show Code.wp _ _ _ b2 w2
  refine wp_seq (quarter_region 68 2 6 10 14 (by decide) (by decide) (by decide) (by decide) (by kernel_rfl) (by kernel_rfl) (fun _ _ d _ _ h => by cases d <;> exact h) g (dblTo s 2) _ _ (by rw [dblTo_len, hl]) (dblTo_w hw 2) r2 (fun n hn => by rw [z2]; omega) e2 ?_)
  intro b3 w3 z3 e3 d3 r3 u3
  replace z3 : b3.tmps.size = 274 := z3.trans z2
  replace d3 : b3.defers = [] := d3.trans d2
  replace r3 : RowIs w3 g 41 (cells32 (dblTo s 3)) := r3
  replace u3 := u2.trans u3
  clear z2 e2 d2 r2 u2
  show Code.wp _ _ _ b3 w3
  refine wp_seq (quarter_region 102 3 7 11 15 (by decide) (by decide) (by decide) (by decide) (by kernel_rfl) (by kernel_rfl) (fun _ _ d _ _ h => by cases d <;> exact h) g (dblTo s 3) _ _ (by rw [dblTo_len, hl]) (dblTo_w hw 3) r3 (fun n hn => by rw [z3]; omega) e3 ?_)
  intro b4 w4 z4 e4 d4 r4 u4
  replace z4 : b4.tmps.size = 274 := z4.trans z3
  replace d4 : b4.defers = [] := d4.trans d3
  replace r4 : RowIs w4 g 41 (cells32 (dblTo s 4)) := r4
  replace u4 := u3.trans u4
  clear z3 e3 d3 r3 u3
  show Code.wp _ _ _ b4 w4
  refine wp_seq (quarter_region 136 0 5 10 15 (by decide) (by decide) (by decide) (by decide) (by kernel_rfl) (by kernel_rfl) (fun _ _ d _ _ h => by cases d <;> exact h) g (dblTo s 4) _ _ (by rw [dblTo_len, hl]) (dblTo_w hw 4) r4 (fun n hn => by rw [z4]; omega) e4 ?_)
  intro b5 w5 z5 e5 d5 r5 u5
  replace z5 : b5.tmps.size = 274 := z5.trans z4
  replace d5 : b5.defers = [] := d5.trans d4
  replace r5 : RowIs w5 g 41 (cells32 (dblTo s 5)) := r5
  replace u5 := u4.trans u5
  clear z4 e4 d4 r4 u4
  show Code.wp _ _ _ b5 w5
  refine wp_seq (quarter_region 170 1 6 11 12 (by decide) (by decide) (by decide) (by decide) (by kernel_rfl) (by kernel_rfl) (fun _ _ d _ _ h => by cases d <;> exact h) g (dblTo s 5) _ _ (by rw [dblTo_len, hl]) (dblTo_w hw 5) r5 (fun n hn => by rw [z5]; omega) e5 ?_)
  intro b6 w6 z6 e6 d6 r6 u6
  replace z6 : b6.tmps.size = 274 := z6.trans z5
  replace d6 : b6.defers = [] := d6.trans d5
  replace r6 : RowIs w6 g 41 (cells32 (dblTo s 6)) := r6
  replace u6 := u5.trans u6
  clear z5 e5 d5 r5 u5
  show Code.wp _ _ _ b6 w6
  refine wp_seq (quarter_region 204 2 7 8 13 (by decide) (by decide) (by decide) (by decide) (by kernel_rfl) (by kernel_rfl) (fun _ _ d _ _ h => by cases d <;> exact h) g (dblTo s 6) _ _ (by rw [dblTo_len, hl]) (dblTo_w hw 6) r6 (fun n hn => by rw [z6]; omega) e6 ?_)
  intro b7 w7 z7 e7 d7 r7 u7
  replace z7 : b7.tmps.size = 274 := z7.trans z6
  replace d7 : b7.defers = [] := d7.trans d6
  replace r7 : RowIs w7 g 41 (cells32 (dblTo s 7)) := r7
  replace u7 := u6.trans u7
  clear z6 e6 d6 r6 u6
  show Code.wp _ _ _ b7 w7
  refine quarter_region 238 3 4 9 14 (by decide) (by decide) (by decide) (by decide) (by kernel_rfl) (by kernel_rfl) (fun _ _ d _ _ h => by cases d <;> exact h) g (dblTo s 7) _ _ (by rw [dblTo_len, hl]) (dblTo_w hw 7) r7 (fun n hn => by rw [z7]; omega) e7 ?_
  intro b8 w8 z8 e8 d8 r8 u8
  replace z8 : b8.tmps.size = 274 := z8.trans z7
  replace d8 : b8.defers = [] := d8.trans d7
  replace r8 : RowIs w8 g 41 (cells32 (dblTo s 8)) := r8
  replace u8 := u7.trans u8
  clear z7 e7 d7 r7 u7
  exact bodyPost_end (results_none rfl _ _ _) d8 ⟨rfl, r8, u8⟩

end Go.Proofs.Ytckcfgbcnefbhaa
