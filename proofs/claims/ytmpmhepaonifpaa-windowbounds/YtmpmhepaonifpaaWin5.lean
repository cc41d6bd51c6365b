/-
  Laws of chapter 11 over what package window's methods tell: WindowBounds.
-/
import Derived.Test.YtmpmhepaonifpaaWin1
import Derived.Test.YtmpmhepaonifpaaInts0
import Derived.BigQuiet
namespace Go.Proofs.Ytmpmhepaonifpaa
open Go.RowKit
set_option linter.unusedVariables false
set_option maxRecDepth 100000
set_option linter.unusedSimpArgs false

/-- A Window, and beside it a list that it told. -/
structure WinV (K : WindowKeeps) (w0 : World) (B p : Nat) (s : Wn) (v : Value) (l : List Int) (w : World) : Prop where
  at_ : ∃ bl, K.At w bl p s ∧ ∀ k, bl k → v.ownBlock ≠ some k
  own : OwnI w B v l
  le : B ≤ p
  bel : Below B w0 w
  sz : B ≤ w.heap.size
section
variable {K : WindowKeeps} {w0 : World} {B p : Nat} {s : Wn} {v : Value} {l : List Int} {w : World}
theorem WinV.win (h : WinV K w0 B p s v l w) : WinAt K w0 B p s w := by
  obtain ⟨bl, ha, _⟩ := h.at_
  exact ⟨⟨bl, ha⟩, h.le, h.bel, h.sz⟩
theorem WinAt.aheadV (h : WinAt K w0 B p s w) (hn : s.n ≤ 1000000) : Calls Try.prog 11 #[.pointer (some ⟨p, 0, none⟩)] w fun e w' => ∃ a c, e = .returned (.slice a s.ahead.length c) ∧ WinV K w0 B p s (.slice a s.ahead.length c) s.ahead w' := by
  obtain ⟨bl, ha⟩ := h.at_
  refine (K.ahead w bl p s ha hn).mono ?_
  rintro e w' ⟨v, bl', rfl, ho, ha', hb, ht⟩
  have h' := h.step ha ha' ht
  obtain ⟨a, c, rfl⟩ := ho.shape
  exact ⟨a, c, rfl, ⟨bl', ha', fun k hk => (hb k hk).2⟩, ho.base h.sz, h'.le, h'.bel, h'.sz⟩
theorem WinV.take (h : WinV K w0 B p s v l w) (x : Int) (hn : s.n ≤ 1000000) (hx : I64W x) : Calls Try.prog 10 #[.pointer (some ⟨p, 0, none⟩), .int .i64 x] w fun e w' => e = .returned (.bool (s.may x)) ∧ WinV K w0 B p (s.take x) v l w' := by
  obtain ⟨bl, ha, hap⟩ := h.at_
  refine (K.take w bl p s x ha hn hx).mono ?_
  rintro e w' ⟨rfl, bl', ha', hb, ht⟩
  have h' := h.win.step ha ha' ht
  refine ⟨rfl, ⟨bl', ha', fun k hk hv => ?_⟩, own_touch h.own ht (fun k hk hS => hap k hS hk), h'.le, h'.bel, h'.sz⟩
  rcases hb k hk with h1 | h1
  · exact hap k h1 hv
  · have := (World.ownsRow.lt h.own k hv).2
    omega
theorem WinV.drew (h : WinV K w0 B p s v l w) (m : Nat) : WinV K w0 B p s v l (w.drewN m) := by
  obtain ⟨bl, ha, hap⟩ := h.at_
  have ht := touch_drewNW (fun _ => False) w m
  exact ⟨⟨bl, K.touch ha ht (fun _ _ x => x), hap⟩, own_touch h.own ht (fun _ _ x => x), h.le, h.bel.trans (ht.below (B := B) (fun _ x => x.elim) h.sz), Nat.le_trans h.sz ht.size⟩
theorem WinV.nextQ (h : WinV K w0 B p s v l w) (hn : s.n ≤ 1000000) (m : Nat) : Calls Try.prog 13 #[.pointer (some ⟨p, 0, none⟩)] (w.drewN m) fun e w' => e = .returned (.int .i64 (s.n : Int)) ∧ ∃ x, w' = (w.drewN m).drewN x := by
  obtain ⟨bl, ha, _⟩ := (h.drew m).at_
  exact K.nextQ _ bl p s ha hn
end

set_option maxRecDepth 100000 in
set_option maxHeartbeats 1000000 in
theorem windowBounds_of (K : WindowKeeps) (oa : Option Addr) (n cap : Nat) (C : Nat → Int) (w : World) (hl : n ≤ maxLen) (hC : IntsAt w oa n C) (hw0 : ∀ i, i < n → (Lit.int .i64 (C i)).wf = true) : Calls Try.prog 7 #[.slice oa n cap] w fun e w' => e = .returned (.bool true) ∧ Below w.heap.size w w' := by
  have PA : Hid _ := alive11_of K
  have HC : Hid (∀ w', Below w.heap.size w w' → IntsAt w' oa n C) := fun w' hb => hC.later hb
  have HW : Hid _ := hw0
  unfold maxLen at hl
  clear hC hw0
  by_cases c0 : 200 < (n : Int)
  · have d0 : decide (200 < (n : Int)) = true := decide_eq_true c0
    go_enter Try.func7, Try.ntmps7
    go_wp2_with fail
    with_reducible refine (PA.out _).mono ?_
    rintro e w1 ⟨rfl, b⟩
    go_wp2
    go_ret
    exact ⟨rfl, b⟩
  have d0 : decide (200 < (n : Int)) = false := decide_eq_false c0
  have hn3 : n ≤ 200 := by omega
  go_enter Try.func7, Try.ntmps7
  go_wp2_with fail
  with_reducible refine (PA.out _).mono ?_
  rintro e w1 ⟨rfl, b⟩
  have H0 : Hid (WinAt K w w.heap.size w1.heap.size Wn.zero (w1.alloc (.cells Try.zeroCells32 32))) := WinAt.new b b.size
  clear b
  go_wp2_with fail
  generalize w1.alloc (.cells Try.zeroCells32 32) = w2 at *
  go_loopw [21] (fun i wr => ∃ (k : Nat) (s : Wn), k ≤ n ∧ i = .int .i64 k ∧ s.n ≤ 64 * k ∧ WinAt K w w.heap.size w1.heap.size s wr) (fun i _ => n - (intOf i).toNat)
  case atStart => exact ⟨0, Wn.zero, Nat.zero_le _, rfl, Nat.le_refl _, H0.out⟩
  case round =>
    clear H0
    obtain ⟨k, s, hk, rfl, hs, hw⟩ := hrel
    by_cases hlt : k < n
    · obtain ⟨bb, oo, rfl, hc⟩ := HC.out _ hw.bel k hlt
      have dlt : decide ((k : Int) < (n : Int)) = true := by simp; omega
      have g0 : (0 : Int) ≤ (k : Int) := by omega
      have g1 : (k : Int) < (n : Int) := by omega
      have hb := bounds_i64 (HW.out k hlt)
      have PT := hw.take (C k) (by omega) (i64w hb.1 hb.2)
      have hs2 : (s.take (C k)).n ≤ 64 * (k + 1) := by have := (Wn.take_ge s (C k)).2; omega
      have PH : Hid (∀ w9, WinAt K w w.heap.size w1.heap.size (s.take (C k)) w9 → _) := fun w9 h9 => h9.aheadV (by omega)
      have hneg : s.may (C k) = true → 0 ≤ C k := fun h => by have := ((Wn.may_iff s _).1 h).1; omega
      have hok : Hid _ := hw.ok.take (C k)
      clear hw hs
      generalize s.take (C k) = s' at *
      generalize s.may (C k) = mm at *
      generalize C k = ck at *
      have hlen : s'.ahead.length < 64 := Wn.ahead_len hok.out
      have dlen : decide (64 ≤ (s'.ahead.length : Int)) = false := decide_eq_false (by omega)
      have PT2 : Hid (∀ v w9, WinV K w w.heap.size w1.heap.size s' v s'.ahead w9 → _) := fun v w9 h9 => h9.take (-1) (by omega) (i64w (by decide) (by decide))
      have hm1 : s'.may (-1) = false := Wn.may_neg (by decide)
      rw [hm1, Wn.take_no hm1] at PT2
      have S2 : Hid _ := hs2
      have hA : Hid (∀ j : Nat, j < s'.ahead.length → (s'.n : Int) < s'.ahead.getD j 0 ∧ s'.ahead.getD j 0 < (s'.n : Int) + 64) := fun j hj => by
        have hm : s'.ahead.getD j 0 ∈ s'.ahead := by
          rw [List.getD_eq_getElem?_getD, List.getElem?_eq_getElem hj]
          exact List.getElem_mem _
        have := Wn.ahead_mem hok.out hm
        exact ⟨this.1, this.2.1⟩
      have hO : Hid (∀ i j : Nat, i < j → j < s'.ahead.length → s'.ahead.getD i 0 < s'.ahead.getD j 0) := s'.ahead_at
      have hN2 : s'.n ≤ 64 * 201 := by omega
      clear hm1 hs2 hok
      have e64 : IntKind.i64.wrap ((s'.n : Int) + 64) = (s'.n : Int) + 64 := by rw [IntKind.wrap_i64]; omega
      have hcase : mm = false ∨ mm = true ∧ decide (ck < 0) = false := by
        cases mm with
        | false => exact Or.inl rfl
        | true => exact Or.inr ⟨rfl, decide_eq_false (by have := hneg rfl; omega)⟩
      clear hneg hb
      generalize s'.ahead = AL at *
      generalize hNN : s'.n = NN at *
      go_wp2_with fail
      with_reducible refine PT.mono ?_
      rintro e w3 ⟨rfl, h3⟩
      clear PT hc
      go_wp2_with fail
      with_reducible refine (PH.out _ h3).mono ?_
      rintro e w4 ⟨a, c, rfl, h4⟩
      clear h3
      rcases hcase with rfl | ⟨rfl, hck⟩
      all_goals
        go_wp2_with fail
        with_reducible refine (PT2.out _ _ h4).mono ?_
        rintro e w5 ⟨rfl, h5⟩
        have H5 : Hid _ := h5
        clear h4 h5
        go_wp2_with fail
        go_loopw [8] (fun i wr => ∃ (j : Nat), j ≤ AL.length ∧ i = .int .i64 j ∧ WinV K w w.heap.size w1.heap.size s' (.slice a AL.length c) AL wr) (fun i _ => AL.length - (intOf i).toNat)
        case atStart => exact ⟨0, Nat.zero_le _, rfl, H5.out⟩
        case round =>
          clear H5
          obtain ⟨j, hj, rfl, hv⟩ := hrel
          by_cases hjt : j < AL.length
          · obtain ⟨g, c', e, _, _⟩ := hv.own.form (by omega)
            injection e with e1 e2 e3
            subst e1 e3
            have djt : decide ((j : Int) < (AL.length : Int)) = true := by simp; omega
            have j0 : (0 : Int) ≤ (j : Int) := by omega
            have j1 : (j : Int) < (AL.length : Int) := by omega
            have x1 := hv.own.cell rfl j hjt
            obtain ⟨y1, y2⟩ := hA.out j hjt
            have PW : Hid _ := hv.nextQ (by omega)
            rw [hNN] at PW
            have HV : Hid _ := hv
            have z1 : decide (AL.getD j 0 ≤ (NN : Int)) = false := decide_eq_false (by omega)
            have z2 : decide ((NN : Int) + 64 ≤ AL.getD j 0) = false := decide_eq_false (by omega)
            by_cases hj0 : 0 < j
            · have dj0 : decide (0 < (j : Int)) = true := decide_eq_true (by omega)
              have e5 : IntKind.i64.wrap ((j : Int) - 1) = ((j - 1 : Nat) : Int) := by rw [IntKind.wrap_i64]; omega
              have k0 : (0 : Int) ≤ ((j - 1 : Nat) : Int) := by omega
              have k1 : ((j - 1 : Nat) : Int) < (AL.length : Int) := by omega
              have x2 := hv.own.cell rfl (j - 1) (by omega)
              have y3 := hO.out (j - 1) j (by omega) hjt
              have z3 : decide (AL.getD j 0 ≤ AL.getD (j - 1) 0) = false := decide_eq_false (by omega)
              clear hv y1 y2 y3
              generalize AL.getD j 0 = A1 at *
              generalize AL.getD (j - 1) 0 = A2 at *
              generalize hjj : j - 1 = jp at *
              go_wp2_with fail
              go_quiet (first | (go_at_call 13; exact Calls.quiet_of (PW.out _)))
              have hvd := HV.out.drew nq
              clear HV PW x1 x2
              go_wp2
              go_roundw
              case rel => exact ⟨j + 1, by omega, by go_num, hvd⟩
              case measure => simp [intOf]; omega
            · have dj0 : decide (0 < (j : Int)) = false := decide_eq_false (by omega)
              clear hv y1 y2
              generalize AL.getD j 0 = A1 at *
              go_wp2_with fail
              go_quiet (first | (go_at_call 13; exact Calls.quiet_of (PW.out _)))
              have hvd := HV.out.drew nq
              clear HV PW x1
              go_wp2
              go_roundw
              case rel => exact ⟨j + 1, by omega, by go_num, hvd⟩
              case measure => simp [intOf]; omega
          · obtain rfl : j = AL.length := by omega
            have djt : decide ((AL.length : Int) < (AL.length : Int)) = false := by simp
            have hwin := hv.win
            clear hv
            go_wp2
            go_roundw
            case rel => exact ⟨k + 1, s', by omega, by go_num, by rw [hNN]; exact S2.out, hwin⟩
            case measure => simp [intOf]; omega
    · obtain rfl : k = n := by omega
      have dlt : decide ((k : Int) < (k : Int)) = false := by simp
      go_wp2
      go_ret
      exact ⟨rfl, hw.bel⟩

end Go.Proofs.Ytmpmhepaonifpaa
