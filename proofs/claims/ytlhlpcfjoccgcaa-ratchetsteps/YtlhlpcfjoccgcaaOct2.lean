/-
  The contracts of package octet's PutBig and PutLittle, and of the reference's.
-/
import Derived.Test.YtlhlpcfjoccgcaaOct1
import Derived.Laws.IdiomStrings
namespace Go.Proofs.Ytlhlpcfjoccgcaa
open Go.RowKit
set_option linter.unusedVariables false
set_option maxRecDepth 100000

theorem info8 : (Try.prog.info? 5).map (fun i => (i.zero, i.size, i.bytes)) = some (some (.int .u8 0), 1, 1) := by kernel_rfl

theorem cells8_len (l : List UInt8) : (cells8 l).length = l.length := by simp [cells8]
theorem cells8_at (l : List UInt8) (j : Nat) (h : j < l.length) : (cells8 l)[j]? = some (.int .u8 (l[j].toNat : Int)) := by
  simp [cells8, h, cell8]
theorem cells8_set (l : List UInt8) (j : Nat) (b : UInt8) : (cells8 l).set j (cell8 b) = cells8 (l.set j b) := by
  simp [cells8, List.map_set]
theorem made8 (n : Nat) : (madeCells #[.int .u8 0] n).toList = cells8 (List.replicate n 0) := by
  rw [toList_madeCells_one]
  simp [cells8, cell8]

/-- A row of bytes that the call made, as a string. -/
theorem own_string {wr : World} {base g n cap : Nat} {l : List UInt8} (h : wr.ownsRow base 5 1 (.slice (some ⟨g, 0, none⟩) n cap) n (cells8 l)) :
    (convert 37 9 (.slice (some ⟨g, 0, none⟩) n cap)).run Try.prog wr = .ok (.string (str l)) wr := by
  have hl : n = l.length := by have := h.1; rw [cells8_len] at this; omega
  subst hl
  refine run_convert_bytes_back wr _ _ 5 ⟨g, 0, none⟩ cap l Try.underlying37 Try.underlying5 Try.underlying9 ?_
  intro j hj
  have := h.cellAt j (by omega)
  rw [cells8_at l j hj] at this
  rw [show (⟨g, 0, none⟩ : Addr).add j = ⟨g, j, none⟩ from by simp [Addr.add]; exact fun h => h.symm]; exact this

/-- A byte stored into such a row. -/
theorem own_store {w wr : World} {base g n cap : Nat} {l : List UInt8} (h : wr.ownsRow base 5 1 (.slice (some ⟨g, 0, none⟩) n cap) n (cells8 l)) (hb : Below base w wr) (hg : base ≤ g) (j : Nat) (b : UInt8) :
    (wr.setCell ⟨g, j, none⟩ (.int .u8 (b.toNat : Int))).ownsRow base 5 1 (.slice (some ⟨g, 0, none⟩) n cap) n (cells8 (l.set j b)) ∧ Below base w (wr.setCell ⟨g, j, none⟩ (.int .u8 (b.toNat : Int))) := by
  have := (h.stored j (cell8 b)).1
  rw [cells8_set] at this
  exact ⟨this, hb.setCell hg _⟩

theorem set_back {l : List UInt8} {n k : Nat} {f : Nat → UInt8} (hl : l.length = n) (h : ∀ j, j < k → l[n - 1 - j]? = some (f j)) (hk : k < n) :
    ∀ j, j < k + 1 → (l.set (n - 1 - k) (f k))[n - 1 - j]? = some (f j) := by
  intro j hj
  rw [List.getElem?_set]
  by_cases e : j = k
  · subst e; rw [if_pos rfl, if_pos (by omega)]
  · rw [if_neg (by omega)]; exact h j (by omega)

theorem big_of {l : List UInt8} {n : Nat} {f : Nat → UInt8} (hl : l.length = n) (h : ∀ j, j < n → l[n - 1 - j]? = some (f j)) : l = (List.range n).map (fun j => f (n - 1 - j)) := by
  refine list_eq_map hl fun j hj => ?_
  have := h (n - 1 - j) (by omega)
  rwa [show n - 1 - (n - 1 - j) = j from by omega] at this

set_option maxHeartbeats 400000 in
theorem octet_putBig_yes (v : Int) (n : Nat) (w : World) (h0 : 0 ≤ v) (h1 : v < 18446744073709551616) (n1 : 1 ≤ n) (n8 : n ≤ 8) :
    Calls Try.prog 28 #[.int .u64 v, .int .i64 n] w fun e w' => e = .returned (.string (putBigS v n)) ∧ Below w.heap.size w w' := by
  have hw : decide (1 ≤ (n : Int) ∧ (n : Int) ≤ 8) = true := by simp; omega
  obtain ⟨i0, hi, hz0, hz1, hz2⟩ := info_parts info8
  go_enter Try.func28, Try.ntmps28
  go_wp2_with (first | (go_at_call 42; refine (octet_isWidth _ _).mono ?_; rintro e w' ⟨rfl, rfl⟩; rw [hw]) | (at_make; refine wpList_make_full _ rfl _ _ 37 rfl w.heap.size 5 i0 (.int .u8 0) 1 Try.underlying37 hi hz0 hz1 .i64 .i64 n n n rfl rfl rfl rfl (by rw [hz2]; omega) (by unfold maxLen; omega) (Nat.le_refl _) ?_))
  intro w1 hown hgrow
  rw [made8] at hown
  have hb1 : Below w.heap.size w w1 := (Below.refl _ w).grown hgrow (Nat.le_refl _) (by intro k hk; cases hk)
  clear hgrow
  go_wp2
  go_loopw [14] (fun i wr => ∃ (k : Nat) (l : List UInt8), k ≤ n ∧ i = .int .i64 k ∧ l.length = n ∧ (∀ j, j < k → l[n - 1 - j]? = some (byteOf v j)) ∧ wr.ownsRow w.heap.size 5 1 (.slice (some ⟨w.heap.size, 0, none⟩) n n) n (cells8 l) ∧ Below w.heap.size w wr) (fun i _ => n - (intOf i).toNat)
  case atStart => exact ⟨0, List.replicate n 0, Nat.zero_le _, rfl, by simp, by intro j hj; omega, hown, hb1⟩
  case round =>
    clear hown hb1
    obtain ⟨k, l, hk, rfl, hl, hbs, hown, hbel⟩ := hrel
    by_cases hlt : k < n
    · have hcell := hown.cellAt (n - 1 - k) (by omega)
      have hfz := hown.frozenAt (n - 1 - k)
      rw [cells8_at l (n - 1 - k) (by omega)] at hcell
      go_wp2_with (first | (go_at_call 43; refine (octet_byteAt _ _ _ h0 h1 (by omega) (by omega)).mono ?_; rintro e w' ⟨rfl, rfl⟩))
      go_roundw
      case rel =>
        have hs := own_store hown hbel (Nat.le_refl _) (n - 1 - k) (byteOf v k)
        exact ⟨k + 1, l.set (n - 1 - k) (byteOf v k), by omega, by go_num, by simpa using hl, set_back hl hbs hlt, hs.1, hs.2⟩
      case measure => simp [intOf]; omega
    · have hkn : k = n := by omega
      subst hkn
      have hconv := own_string hown
      go_wp2
      go_ret
      refine ⟨?_, hbel⟩
      rw [show putBigS v k = str l from by unfold putBigS putBig; rw [if_pos (by omega)]; congr 1; exact (big_of hl hbs).symm]
      rfl
theorem putBigS_no (v n : Int) (h : ¬ (1 ≤ n ∧ n ≤ 8)) : putBigS v n = ⟨#[]⟩ := by
  unfold putBigS putBig; rw [if_neg h]; rfl
theorem putLittleS_no (v n : Int) (h : ¬ (1 ≤ n ∧ n ≤ 8)) : putLittleS v n = ⟨#[]⟩ := by
  unfold putLittleS putLittle; rw [if_neg h]; rfl
theorem ret_str {a b : ByteArray} (h : a = b) : Ending.returned (.string a) = .returned (.string b) := by rw [h]

theorem octet_putBig (v n : Int) (w : World) (h0 : 0 ≤ v) (h1 : v < 18446744073709551616) :
    Calls Try.prog 28 #[.int .u64 v, .int .i64 n] w fun e w' => e = .returned (.string (putBigS v n)) ∧ Below w.heap.size w w' := by
  by_cases h : 1 ≤ n ∧ n ≤ 8
  · obtain ⟨m, rfl⟩ := Int.eq_ofNat_of_zero_le (show 0 ≤ n from by omega)
    exact octet_putBig_yes v m w h0 h1 (by omega) (by omega)
  · have hw : decide (1 ≤ n ∧ n ≤ 8) = false := by simp; omega
    have hno : Hid (putBigS v n = ⟨#[]⟩) := putBigS_no v n h
    clear h
    go_enter Try.func28, Try.ntmps28
    go_wp2_with (first | (go_at_call 42; refine (octet_isWidth _ _).mono ?_; rintro e w' ⟨rfl, rfl⟩; rw [hw]))
    go_ret
    exact ⟨ret_str hno.out.symm, Below.refl _ _⟩

theorem set_fore {l : List UInt8} {n k : Nat} {f : Nat → UInt8} (hl : l.length = n) (h : ∀ j, j < k → l[j]? = some (f j)) (hk : k < n) :
    ∀ j, j < k + 1 → (l.set k (f k))[j]? = some (f j) := by
  intro j hj
  rw [List.getElem?_set]
  by_cases e : k = j
  · subst e; rw [if_pos rfl, if_pos (by omega)]
  · rw [if_neg e]; exact h j (by omega)

end Go.Proofs.Ytlhlpcfjoccgcaa
