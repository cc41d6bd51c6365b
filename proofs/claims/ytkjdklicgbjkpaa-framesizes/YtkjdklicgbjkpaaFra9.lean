/-
  The law FrameSizes over contracts of package frame.
-/
import Derived.Test.YtkjdklicgbjkpaaFra7
import Derived.Test.YtkjdklicgbjkpaaOct12
import Derived.BigQuiet
namespace Go.Proofs.Ytkjdklicgbjkpaa
open Go.RowKit
set_option linter.unusedVariables false
set_option maxRecDepth 100000
set_option linter.unusedSimpArgs false

theorem zeroRow_is9 (n : Nat) : zeroRow n = .cells (cells8 (List.replicate n 0)).toArray 5 := by
  unfold zeroRow
  rw [← made8]
theorem row_str9 {w : World} {g n : Nat} {l : List UInt8} (h : RowIs w g 5 (cells8 l)) (hl : l.length = n) :
    (convert 56 9 (.slice (some ⟨g, 0, none⟩) n n)).run Try.prog w = .ok (.string (str l)) w := by
  subst hl
  refine run_convert_bytes_back w _ _ 5 ⟨g, 0, none⟩ _ l Try.underlying56 Try.underlying5 Try.underlying9 ?_
  intro j hj
  rw [show (⟨g, 0, none⟩ : Addr).add j = ⟨g, j, none⟩ from by simp [Addr.add]; exact fun h => h.symm]
  exact h.cellAt (cells8_at l j hj)
/-- Zeros, the first k of them overwritten. -/
def fill9 (n k : Nat) (y : UInt8) : List UInt8 := List.replicate k y ++ List.replicate (n - k) 0
theorem fill9_len (n k : Nat) (y : UInt8) (h : k ≤ n) : (fill9 n k y).length = n := by unfold fill9; simp; omega
theorem fill9_set (n k : Nat) (y : UInt8) (h : k < n) : (fill9 n k y).set k y = fill9 n (k + 1) y := by
  unfold fill9
  rw [List.set_append_right _ _ (by simp), List.length_replicate, Nat.sub_self, show n - k = (n - (k + 1)) + 1 from by omega, List.replicate_succ, List.set_cons_zero, List.replicate_succ' (n := k), List.append_assoc]
  rfl
theorem fill9_cell (n k : Nat) (y : UInt8) (h : k < n) : ∃ z : UInt8, (cells8 (fill9 n k y))[k]? = some (.int .u8 (z.toNat : Int)) :=
  ⟨_, cells8_at (fill9 n k y) k (by rw [fill9_len n k y (by omega)]; exact h)⟩
theorem fill9_all (n : Nat) (y : UInt8) : fill9 n n y = List.replicate n y := by unfold fill9; simp
theorem touch_row {S : Nat → Prop} {w w' : World} {g : Nat} {t : TypeId} {l : List Value} (h : RowIs w g t l) (ht : Touch S w w') (hn : ¬ S g) : RowIs w' g t l := by
  show w'.heap[g]? = _
  rw [ht.block g h.lt hn]
  exact h

set_option maxRecDepth 100000 in
set_option maxHeartbeats 4000000 in
theorem frameSizes_of (K : FrameKeeps) (n : Nat) (y : UInt8) (w : World) (h1 : 1 ≤ n) (h2 : n ≤ 2200) :
    Calls Try.prog 8 #[.int .i64 (n : Int), .int .u8 (y.toNat : Int)] w fun e w' => e = .returned (.bool true) ∧ Below w.heap.size w w' := by
  have PA : Hid _ := alive9_of K
  have d1 : decide ((n : Int) < 1) = false := by simp; omega
  have d2 : decide (2200 < (n : Int)) = false := by simp; omega
  have hmk := make8 n (by omega)
  go_enter Try.func8, Try.ntmps8
  go_wp2_with fail
  with_reducible refine (PA.out _).mono ?_
  rintro e w1 ⟨rfl, b1⟩
  have hrow : RowIs (w1.alloc (zeroRow n)) w1.heap.size 5 (cells8 (fill9 n 0 y)) := by
    rw [zeroRow_is9, show fill9 n 0 y = List.replicate n 0 from by unfold fill9; simp]
    exact RowIs.new w1 _ _
  have B0 : Below w1.heap.size w1 (w1.alloc (zeroRow n)) := (Below.refl _ _).alloc (Nat.le_refl _) _
  go_wp2_with fail
  generalize w1.alloc (zeroRow n) = w2 at *
  clear hmk
  go_loopw [27] (fun i wr => ∃ k : Nat, k ≤ n ∧ i = .int .i64 k ∧ RowIs wr w1.heap.size 5 (cells8 (fill9 n k y)) ∧ Below w1.heap.size w1 wr) (fun i _ => n - (intOf i).toNat)
  case atStart => exact ⟨0, by omega, rfl, hrow, B0⟩
  case round =>
    clear hrow B0
    obtain ⟨k, hk, rfl, hrow, B⟩ := hrel
    by_cases hlt : k < n
    · have dlt : decide ((k : Int) < (n : Int)) = true := by simp; omega
      have dlt2 : (k : Int) < (n : Int) := by omega
      obtain ⟨z, hz⟩ := fill9_cell n k y hlt
      have hc := hrow.cellAt hz
      have hf := hrow.frozen k
      go_wp2
      go_roundw
      case rel =>
        refine ⟨k + 1, by omega, by go_num, ?_, B.setCell (Nat.le_refl _) _⟩
        have := hrow.set k (.int .u8 (y.toNat : Int))
        rwa [show (Value.int .u8 (y.toNat : Int)) = cell8 y from rfl, cells8_set, fill9_set n k y hlt] at this
      case measure => simp [intOf]; omega
    · have dlt : decide ((k : Int) < (n : Int)) = false := by simp; omega
      obtain rfl : k = n := by omega
      rw [fill9_all] at hrow
      have hcv := row_str9 hrow (n := k) (by simp)
      have hS : (str (List.replicate k y)).size = k := by rw [str_size, List.length_replicate]
      have p1 := fun w => K.put (str (List.replicate k y)) w (by omega)
      rw [(putFS_yes (str (List.replicate k y)) (by omega) (by omega)).1] at p1
      have P1 : Hid _ := p1
      have HR : Hid (∀ (w5 : World) (m : Nat), RowIs w5 w1.heap.size 5 (cells8 (List.replicate k y)) → (convert 56 9 (.slice (some ⟨w1.heap.size, 0, none⟩) k k)).run Try.prog (w5.drewN m) = .ok (.string (str (List.replicate k y))) (w5.drewN m)) := fun w5 m h => row_str9 (w := w5.drewN m) h (by simp)
      have hF := (putFS_yes (str (List.replicate k y)) (by omega) (by omega)).2.2
      have P2 : Hid (∀ w bl p, K.Rd w bl p ⟨#[]⟩ false → Calls Try.prog 10 #[.pointer (some ⟨p, 0, none⟩), .string (putFS (str (List.replicate k y)) ++ putFS (str (List.replicate k y)))] w (Fed K w bl p [str (List.replicate k y), str (List.replicate k y)] ⟨#[]⟩ false)) := fun w bl p h => by
        have := K.live w bl p ⟨#[]⟩ (putFS (str (List.replicate k y)) ++ putFS (str (List.replicate k y))) h (by rw [show (⟨#[]⟩ : ByteArray).size = 0 from rfl, ByteArray.size_append]; omega)
        have e1 := fr_put (str (List.replicate k y)) (putFS (str (List.replicate k y))) (by omega) (by omega)
        have e2 := fr_put1 (str (List.replicate k y)) (by omega) (by omega)
        rwa [none_cat, e1.1, e1.2.1, e1.2.2, e2.1, e2.2.1, e2.2.2] at this
      have e1 := str_beq_self (str (List.replicate k y))
      clear p1
      generalize str (List.replicate k y) = S at *
      rw [hS] at hF
      generalize putFS S = F at *
      have hln : ¬ (9223372036854775807 < F.size + F.size) := by omega
      have HF : Hid (F.size = k + 2) := hF
      have g1 : (((F.size : Nat) : Int) == (k : Int) + 2) = true := by simp; omega
      have g2 : IntKind.i64.wrap ((k : Int) + 2) = (k : Int) + 2 := IntWalk.i64_in _ ⟨by omega, by omega⟩
      clear hF
      go_wp2_with fail
      with_reducible refine (P1.out _).mono ?_
      rintro e w3 ⟨rfl, b3⟩
      replace hrow := hrow.below b3 hrow.lt
      have B3 := B.trans (b3.mono B.size)
      have hR := K.new w3
      have bN := reader_new w3
      have hg3 := hrow.lt
      go_wp2_with fail
      generalize w3.alloc (.cells #[.string ⟨#[]⟩, .bool false, .int .i64 0] 31) = w4 at *
      replace hrow := hrow.below bN hrow.lt
      have B4 := B3.trans (bN.mono B3.size)
      with_reducible refine (P2.out _ _ _ hR).mono ?_
      rintro e w5 ⟨v1, bl1, hv1, rfl, hR1, hb1, t1⟩
      replace hrow := touch_row hrow t1 (by intro h; omega)
      have B5 := B4.trans (K.bel hR t1 (Nat.le_of_lt hg3) B4.size)
      obtain ⟨g, c1, rfl, _, _⟩ := hv1.form (by simp)
      have x0 : w5.cell? ⟨g, 0, none⟩ = some (.string S) := hv1.cell rfl 0 (by simp)
      have x1 : w5.cell? ⟨g, 1, none⟩ = some (.string S) := hv1.cell rfl 1 (by simp)
      have hcv5 := fun m => HR.out w5 m hrow
      rw [show ([S, S] : List ByteArray).length = 2 from rfl]
      clear hv1 hb1 t1 hR hcv b3 bN B3 B4 B hrow
      go_wp2_with fail
      go_quiet (fail)
      go_wp2
      go_ret
      exact ⟨rfl, b1.trans ((B5.trans (K.bel hR1 (touch_drewN bl1 w5 nq) (Nat.le_of_lt hg3) B5.size)).mono b1.size)⟩

theorem frameSizes_all (K : FrameKeeps) (a : Int) (y : UInt8) (w : World) (h0 : -9223372036854775808 ≤ a) (h1 : a ≤ 9223372036854775807) :
    Calls Try.prog 8 #[.int .i64 a, .int .u8 (y.toNat : Int)] w fun e w' => e = .returned (.bool true) ∧ Below w.heap.size w w' := by
  have PA : Hid _ := alive9_of K
  cases d1 : decide (a < 1) <;> cases d2 : decide (2200 < a)
  case false.false =>
    simp at d1 d2
    obtain ⟨n, rfl⟩ := Int.eq_ofNat_of_zero_le (show 0 ≤ a from by omega)
    exact frameSizes_of K n y w (by omega) (by omega)
  all_goals
    go_enter Try.func8, Try.ntmps8
    go_wp2_with fail
    with_reducible refine (PA.out _).mono ?_
    rintro e w1 ⟨rfl, b1⟩
    go_wp2
    go_ret
    exact ⟨rfl, b1⟩

end Go.Proofs.Ytkjdklicgbjkpaa
