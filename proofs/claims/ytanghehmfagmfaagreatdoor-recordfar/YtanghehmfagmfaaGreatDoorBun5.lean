/-
  Parts of this proof, one behind the other: Mac0.
-/
import Derived.Test.YtanghehmfagmfaaGreatDoorBun4
import Derived.Test.YtanghehmfagmfaaGreatDoorBun1
import Derived.Laws.LoneSync
import Derived.Lib.ConvBytes
import Derived.Laws.BitsAllLaws

/-
  Bytes of a string laid out as a row, and the contracts of package mac's at, difference and Same.
-/
namespace Go.Proofs.YtanghehmfagmfaaGreatDoor
open Go.RowKit
set_option linter.unusedVariables false
set_option maxRecDepth 100000

/-- Block g is a row that begins with the bytes l, none of them frozen. -/
def BytesZ (w : World) (g : Nat) (l : List UInt8) : Prop :=
  ∃ rest : List Value, w.heap[g]? = some (.cells (cells8 l ++ rest).toArray 5 ((cells8 l ++ rest).length, (cells8 l ++ rest).length + 1))

theorem BytesZ.lt {w : World} {g : Nat} {l : List UInt8} (h : BytesZ w g l) : g < w.heap.size := by
  obtain ⟨_, h⟩ := h
  exact (Array.getElem?_eq_some_iff.1 h).1
theorem BytesZ.cell {w : World} {g : Nat} {l : List UInt8} (h : BytesZ w g l) (j : Nat) (hj : j < l.length) : w.cell? ⟨g, j, none⟩ = some (.int .u8 (l[j].toNat : Int)) := by
  obtain ⟨rest, h⟩ := h
  have e : (cells8 l ++ rest)[j]? = some (.int .u8 (l[j].toNat : Int)) := by
    rw [List.getElem?_append_left (by rw [cells8_len]; exact hj)]
    exact cells8_at l j hj
  simpa [World.cell?, h] using e
theorem BytesZ.frozen {w : World} {g : Nat} {l : List UInt8} (h : BytesZ w g l) (j : Nat) (hj : j < l.length) : w.frozen? ⟨g, j, none⟩ = false := by
  obtain ⟨rest, h⟩ := h
  have := cells8_len l
  simp [World.frozen?, h]
  omega
theorem BytesZ.drew {w : World} {g : Nat} {l : List UInt8} (h : BytesZ w g l) : BytesZ w.drew g l := h
theorem BytesZ.below {w w' : World} {g : Nat} {l : List UInt8} (h : BytesZ w g l) {B : Nat} (hb : Below B w w') (hg : g < B) : BytesZ w' g l := by
  obtain ⟨rest, h⟩ := h
  exact ⟨rest, (hb.block g hg).trans h⟩
theorem BytesZ.set {w : World} {g : Nat} {l : List UInt8} (h : BytesZ w g l) (j : Nat) (hj : j < l.length) (b : UInt8) : BytesZ (w.setCell ⟨g, j, none⟩ (.int .u8 (b.toNat : Int))) g (l.set j b) := by
  obtain ⟨rest, h⟩ := h
  have e : (cells8 l ++ rest).set j (cell8 b) = cells8 (l.set j b) ++ rest := by
    rw [List.set_append_left _ _ (by rw [cells8_len]; exact hj), cells8_set]
  have e2 : (cells8 (l.set j b) ++ rest).length = (cells8 l ++ rest).length := by rw [← e, List.length_set]
  refine ⟨rest, ?_⟩
  rw [e2, ← e]
  simp [World.setCell, Array.getElem?_modify, h, List.setIfInBounds_toArray, cell8]
/-- '[]byte(s)'. -/
theorem bytes_new (w : World) (s : ByteArray) : BytesZ (Lib.bytesWorld w 5 s) w.heap.size s.data.toList := by
  refine ⟨List.replicate (grownCap w s.size 0 5 - s.size) (Value.int .u8 0), ?_⟩
  have e : Lib.bytesCells w 5 s = (cells8 s.data.toList ++ List.replicate (grownCap w s.size 0 5 - s.size) (Value.int .u8 0)).toArray := by
    apply Array.toList_inj.1
    simp [Lib.bytesCells, cells8]
    intro _ _
    rfl
  have h := Lib.bytesWorld_at_new w 5 s
  rw [e] at h
  simpa using h
theorem bytes_below (w : World) (s : ByteArray) : Below w.heap.size w (Lib.bytesWorld w 5 s) :=
  ⟨rfl, rfl, rfl, by rw [Lib.bytesWorld_size]; omega, fun k hk => Lib.bytesWorld_at_old w 5 s k hk⟩
theorem bytes_conv (w : World) (s : ByteArray) : (convert 9 51 (.string s)).run Tryz.prog w = .ok (.slice (some ⟨w.heap.size, 0, none⟩) s.size (grownCap w s.size 0 5)) (Lib.bytesWorld w 5 s) :=
  Lib.run_convert_string_bytes w _ _ _ s Tryz.underlying9 Tryz.underlying51 Tryz.underlying5
/-- Back, or a head of it. -/
theorem BytesZ.string {w : World} {g : Nat} {l : List UInt8} (h : BytesZ w g l) (n cap : Nat) (hn : n ≤ l.length) :
    (convert 51 9 (.slice (some ⟨g, 0, none⟩) n cap)).run Tryz.prog w = .ok (.string (str (l.take n))) w := by
  have e : (l.take n).length = n := by rw [List.length_take]; omega
  have := run_convert_bytes_back (P := Tryz.prog) w 51 9 5 ⟨g, 0, none⟩ cap (l.take n) Tryz.underlying51 Tryz.underlying5 Tryz.underlying9 (by
    intro j hj
    have hj' : j < l.length := by omega
    rw [show (⟨g, 0, none⟩ : Addr).add j = ⟨g, j, none⟩ from by simp [Addr.add]; exact fun h => h.symm, h.cell j hj']
    simp)
  rwa [e] at this

/-- What 'at' tells of a text's byte i. -/
def atN (l : List UInt8) (i : Nat) : Nat := if h : i < l.length then l[i].toNat else 256
/-- The sum of the differences of the first k bytes. -/
def diffN (a b : List UInt8) : Nat → Nat
  | 0 => 0
  | k + 1 => diffN a b k + (atN a k ^^^ atN b k)
theorem atN_lt (l : List UInt8) (i : Nat) : atN l i < 512 := by
  unfold atN
  split
  · have := (l[i]).toNat_lt; omega
  · omega
theorem xorN_lt (a b : List UInt8) (i : Nat) : atN a i ^^^ atN b i < 512 := Nat.xor_lt_two_pow (n := 9) (atN_lt a i) (atN_lt b i)
theorem diffN_le (a b : List UInt8) : ∀ k, diffN a b k ≤ 512 * k
  | 0 => Nat.le_refl _
  | k + 1 => by have := diffN_le a b k; have := xorN_lt a b k; rw [diffN]; omega
theorem xor_zero_iff (x y : Nat) : x ^^^ y = 0 ↔ x = y := by
  constructor
  · intro h
    apply Nat.eq_of_testBit_eq
    intro i
    have : (x ^^^ y).testBit i = false := by rw [h]; exact Nat.zero_testBit i
    rw [Nat.testBit_xor] at this
    cases hx : x.testBit i <;> cases hy : y.testBit i <;> simp [hx, hy] at this ⊢
  · rintro rfl
    exact Nat.xor_self x
theorem diffN_zero (a b : List UInt8) : ∀ k, diffN a b k = 0 ↔ ∀ i, i < k → atN a i = atN b i
  | 0 => by simp [diffN]
  | k + 1 => by
    rw [diffN, Nat.add_eq_zero_iff, diffN_zero a b k, xor_zero_iff]
    constructor
    · rintro ⟨h1, h2⟩ i hi
      rcases Nat.lt_or_eq_of_le (Nat.le_of_lt_succ hi) with h | rfl
      · exact h1 i h
      · exact h2
    · intro h
      exact ⟨fun i hi => h i (by omega), h k (by omega)⟩
theorem diffN_same (a b : List UInt8) (k : Nat) (ha : a.length ≤ k) (hb : b.length ≤ k) : diffN a b k = 0 ↔ a = b := by
  rw [diffN_zero]
  constructor
  · intro h
    have key : ∀ i, i < k → a[i]? = b[i]? := by
      intro i hi
      have e := h i hi
      unfold atN at e
      by_cases h1 : i < a.length
      · have := (a[i]).toNat_lt
        by_cases h2 : i < b.length
        · rw [dif_pos h1, dif_pos h2] at e
          rw [List.getElem?_eq_getElem h1, List.getElem?_eq_getElem h2, UInt8.toNat_inj.1 e]
        · rw [dif_pos h1, dif_neg h2] at e; omega
      · by_cases h2 : i < b.length
        · have := (b[i]).toNat_lt
          rw [dif_neg h1, dif_pos h2] at e; omega
        · rw [List.getElem?_eq_none (by omega), List.getElem?_eq_none (by omega)]
    apply List.ext_getElem?
    intro i
    by_cases hi : i < k
    · exact key i hi
    · rw [List.getElem?_eq_none (by omega), List.getElem?_eq_none (by omega)]
  · rintro rfl i hi
    rfl

theorem atN_in (s : ByteArray) (i : Nat) (h : i < s.size) : ((atN s.data.toList i : Nat) : Int) = (s[i].toNat : Int) := by
  unfold atN
  rw [dif_pos (by simpa using h)]
  rfl
theorem atN_out (s : ByteArray) (i : Nat) (h : ¬ i < s.size) : atN s.data.toList i = 256 := by
  unfold atN
  rw [dif_neg (by simpa using h)]

theorem mac_at (s : ByteArray) (i : Nat) (w : World) (hi : i < 4611686018427387904) :
    Calls Tryz.prog 209 #[.string s, .int .i64 i] w fun e w' => e = .returned (.int .u64 (atN s.data.toList i : Nat)) ∧ w = w' := by
  by_cases h : i < s.size
  · have e := atN_in s i h
    have hlt := s[i].toNat_lt
    rw [e]
    go_enter Tryz.func209, Tryz.ntmps209
    go_wp2
    go_ret
    exact ⟨rfl, rfl⟩
  · have e := atN_out s i h
    rw [e]
    go_enter Tryz.func209, Tryz.ntmps209
    go_wp2
    go_ret
    exact ⟨rfl, rfl⟩

/-- An atomic.Uint64's Add, where the sum fits. -/
theorem u64_add (a : Addr) (x y : Nat) (w : World) (hc : w.cell? a = some (.int .u64 x)) (hz : w.frozen? a = false) (hs : x + y < 18446744073709551616) :
    Calls Tryz.prog 208 #[.pointer (some a), .int .u64 y] w fun e w' => e = .returned (.int .u64 ((x + y : Nat) : Int)) ∧ w' = w.setCell a (.int .u64 ((x + y : Nat) : Int)) := by
  have hadd : (Op.intArith .add .u64 (x : Int) (y : Int)).run Tryz.prog w = .ok (.int .u64 ((x + y : Nat) : Int)) w := by
    have e : IntKind.u64.wrap ((x : Int) + y) = (x : Int) + y := by rw [IntKind.wrap_u64]; omega
    go_simp
  have hl := run_call_add (P := Tryz.prog) Tryz.func227 (by kernel_rfl) (by kernel_rfl) (by kernel_rfl) .u64 (by kernel_rfl) hc hz hadd
  go_enter Tryz.func208, Tryz.ntmps208
  go_wp2
  go_ret
  exact ⟨rfl, rfl⟩
theorem u64_load (a : Addr) (x : Int) (w : World) (hc : w.cell? a = some (.int .u64 x)) :
    Calls Tryz.prog 210 #[.pointer (some a)] w fun e w' => e = .returned (.int .u64 x) ∧ w = w' := by
  have hl := run_call_load (P := Tryz.prog) Tryz.func228 (by kernel_rfl) (by kernel_rfl) (by kernel_rfl) .u64 (by kernel_rfl) hc
  go_enter Tryz.func210, Tryz.ntmps210
  go_wp2
  go_ret
  exact ⟨rfl, rfl⟩


set_option maxHeartbeats 1000000 in
theorem mac_difference (a b : ByteArray) (w : World) (ha : a.size ≤ 17592186044416) (hb : b.size ≤ 17592186044416) (n : Nat) (hna : a.size ≤ n) (hnb : b.size ≤ n) (hn : n = a.size ∨ n = b.size) :
    Calls Tryz.prog 188 #[.string a, .string b] w fun e w' => e = .returned (.int .u64 (diffN a.data.toList b.data.toList n : Nat)) ∧ Below w.heap.size w w' := by
  go_enter Tryz.func188, Tryz.ntmps188
  go_wp2
  all_goals
    go_loopw [12] (fun i wr => ∃ k : Nat, k ≤ n ∧ i = .int .i64 k ∧ RowIs wr w.heap.size 249 [.int .u64 (diffN a.data.toList b.data.toList k : Nat)] ∧ Below w.heap.size w wr) (fun i _ => n - (intOf i).toNat)
    case atStart => exact ⟨0, Nat.zero_le _, rfl, RowIs.new w _ _, (Below.refl _ _).alloc (Nat.le_refl _) _⟩
    case round =>
      obtain ⟨k, hk, rfl, hrow, hbel⟩ := hrel
      have hcell := hrow.cell 0
      have hfz := hrow.frozen 0
      by_cases hlt : k < n
      · have hx := u64_xor_nat (atN a.data.toList k) (atN b.data.toList k) (by have := atN_lt a.data.toList k; omega) (by have := atN_lt b.data.toList k; omega)
        have hd := diffN_le a.data.toList b.data.toList k
        have hd2 := xorN_lt a.data.toList b.data.toList k
        go_wp2_with (first | (go_at_call 209; refine (mac_at _ _ _ (by omega)).mono ?_; rintro e w' ⟨rfl, rfl⟩) | (go_at_call 208; refine (u64_add ⟨w.heap.size, 0, none⟩ _ _ _ hcell hfz (by omega)).mono ?_; rintro e w' ⟨rfl, rfl⟩))
        go_roundw
        case rel => exact ⟨k + 1, by omega, by go_num, by rw [diffN, Int.natCast_add]; exact hrow.set 0 _, hbel.setCell (Nat.le_refl _) _⟩
        case measure => simp [intOf]; omega
      · have hkn : k = n := by omega
        subst hkn
        go_wp2_with (go_at_call 210; refine (u64_load _ _ _ hcell).mono ?_; rintro e w' ⟨rfl, rfl⟩)
        go_ret
        exact ⟨rfl, hbel⟩

/-- Same tells whether two texts are the same. -/
theorem mac_same (a b : ByteArray) (w : World) (ha : a.size ≤ 17592186044416) (hb : b.size ≤ 17592186044416) :
    Calls Tryz.prog 150 #[.string a, .string b] w fun e w' => e = .returned (.bool (decide (a = b))) ∧ Below w.heap.size w w' := by
  obtain ⟨n, hna, hnb, hn⟩ : ∃ n : Nat, a.size ≤ n ∧ b.size ≤ n ∧ (n = a.size ∨ n = b.size) := ⟨max a.size b.size, by omega, by omega, by omega⟩
  have hs := diffN_same a.data.toList b.data.toList n (by simpa using hna) (by simpa using hnb)
  have hd := mac_difference a b w ha hb n hna hnb hn
  have e : decide (a = b) = decide (((diffN a.data.toList b.data.toList n : Nat) : Int) = 0) := by
    refine decide_eq_decide.2 ⟨?_, ?_⟩
    · rintro rfl; exact Int.natCast_eq_zero.2 (hs.2 rfl)
    · intro h
      have := hs.1 (Int.natCast_eq_zero.1 h)
      rw [← str_back a, ← str_back b, this]
  rw [e]
  generalize diffN a.data.toList b.data.toList n = d at *
  clear hs e
  go_enter Tryz.func150, Tryz.ntmps150
  go_wp2_with (go_at_call 188; refine hd.mono ?_; rintro e w' ⟨rfl, b'⟩)
  go_ret
  exact ⟨rfl, b'⟩

end Go.Proofs.YtanghehmfagmfaaGreatDoor
