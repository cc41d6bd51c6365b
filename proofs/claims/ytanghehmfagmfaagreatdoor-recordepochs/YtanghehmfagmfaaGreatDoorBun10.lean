/-
  Parts of this proof, one behind the other: Oct6, Cha0, Oct9, Oct12, Zer0.
-/
import Derived.Test.YtanghehmfagmfaaGreatDoorBun4
import Derived.RegionTactic
import Derived.Test.YtanghehmfagmfaaGreatDoorBun2

/-
  The contracts of Xor, package octet's and the reference's.
-/
namespace Go.Proofs.YtanghehmfagmfaaGreatDoor
open Go.RowKit
set_option linter.unusedVariables false
set_option maxRecDepth 100000

def xorL (a b : List UInt8) : List UInt8 := List.zipWith (fun x y => x ^^^ y) a b
def xorS (a b : ByteArray) : ByteArray := str (xorL a.data.toList b.data.toList)
def xorAt (a b : ByteArray) (j : Nat) : UInt8 := a.data.toList.getD j 0 ^^^ b.data.toList.getD j 0

theorem getD_at (a : ByteArray) (k : Nat) (h : k < a.size) : a.data.toList.getD k 0 = a[k] := by
  rw [List.getD_eq_getElem?_getD, List.getElem?_eq_getElem (by simpa using h)]; rfl

theorem xor_bits (a b : ByteArray) (k : Nat) (ha : k < a.size) (hb : k < b.size) : bits BinOp.xor IntKind.u8 (a[k].toNat : Int) (b[k].toNat : Int) = ((xorAt a b k).toNat : Int) := by
  have h1 := a[k].toNat_lt
  have h2 := b[k].toNat_lt
  rw [u8_xor_nat _ _ h1 h2]
  unfold xorAt
  rw [getD_at a k ha, getD_at b k hb, UInt8.toNat_xor]

theorem xorS_of {a b : ByteArray} {n : Nat} {l : List UInt8} (hna : n ≤ a.size) (hnb : n ≤ b.size) (hn : n = a.size ∨ n = b.size) (hl : l.length = n) (h : ∀ j, j < n → l[j]? = some (xorAt a b j)) : xorS a b = str l := by
  unfold xorS xorL
  congr 1
  apply List.ext_getElem?
  intro j
  rw [List.getElem?_zipWith]
  by_cases hj : j < n
  · rw [h j hj, List.getElem?_eq_getElem (show j < a.data.toList.length from by simpa using (by omega : j < a.size)), List.getElem?_eq_getElem (show j < b.data.toList.length from by simpa using (by omega : j < b.size))]
    unfold xorAt
    rw [getD_at a j (by omega), getD_at b j (by omega)]
    rfl
  · have ea : a.data.toList.length = a.size := by simp
    have eb : b.data.toList.length = b.size := by simp
    rw [List.getElem?_eq_none (l := l) (by omega)]
    rcases hn with e | e
    · rw [List.getElem?_eq_none (l := a.data.toList) (by omega)]
    · rw [List.getElem?_eq_none (l := b.data.toList) (by omega)]
      split <;> simp_all

set_option maxHeartbeats 400000 in
theorem octet_xor (a b : ByteArray) (w : World) (ha : a.size ≤ 140737488355328) (hb : b.size ≤ 140737488355328) :
    Calls Tryz.prog 137 #[.string a, .string b] w fun e w' => e = .returned (.string (xorS a b)) ∧ Below w.heap.size w w' := by
  obtain ⟨i0, hi, hz0, hz1, hz2⟩ := info_parts info8
  obtain ⟨n, hna, hnb, hn⟩ : ∃ n : Nat, n ≤ a.size ∧ n ≤ b.size ∧ (n = a.size ∨ n = b.size) := ⟨min a.size b.size, by omega, by omega, by omega⟩
  go_enter Tryz.func137, Tryz.ntmps137
  go_wp2_with (first | (at_make; refine wpList_make_full _ rfl _ _ 51 rfl w.heap.size 5 i0 (.int .u8 0) 1 Tryz.underlying51 hi hz0 hz1 .i64 .i64 _ _ n rfl rfl (by omega) (by omega) (by rw [hz2]; omega) (by unfold maxLen; omega) (Nat.le_refl _) ?_))
  all_goals
    intro w1 hown hgrow
    rw [made8] at hown
    have hb1 : Below w.heap.size w w1 := (Below.refl _ w).grown hgrow (Nat.le_refl _) (by intro k hk; cases hk)
    clear hgrow
    go_wp2
    go_loopw [15] (fun i wr => ∃ (k : Nat) (l : List UInt8), k ≤ n ∧ i = .int .i64 k ∧ l.length = n ∧ (∀ j, j < k → l[j]? = some (xorAt a b j)) ∧ wr.ownsRow w.heap.size 5 1 (.slice (some ⟨w.heap.size, 0, none⟩) n n) n (cells8 l) ∧ Below w.heap.size w wr) (fun i _ => n - (intOf i).toNat)
    case atStart => exact ⟨0, List.replicate n 0, Nat.zero_le _, rfl, by simp, by intro j hj; omega, hown, hb1⟩
    case round =>
      clear hown hb1
      obtain ⟨k, l, hk, rfl, hl, hbs, hown, hbel⟩ := hrel
      by_cases hlt : k < n
      · have hcell := hown.cellAt k (by omega)
        have hfz := hown.frozenAt k
        rw [cells8_at l k (by omega)] at hcell
        have hka : k < a.size := by omega
        have hkb : k < b.size := by omega
        have hx := xor_bits a b k hka hkb
        go_wp2
        go_region
        go_wp2
        go_roundw
        case rel =>
          have hs := own_store hown hbel (Nat.le_refl _) k (xorAt a b k)
          exact ⟨k + 1, l.set k (xorAt a b k), by omega, by go_num, by simpa using hl, set_fore hl hbs hlt, hs.1.drew, hs.2.drew⟩
        case measure => simp [intOf]; omega
      · have hkn : k = n := by omega
        subst hkn
        have hconv := own_string hown
        go_wp2
        go_ret
        exact ⟨ret_str (xorS_of hna hnb hn hl hbs).symm, hbel⟩

set_option maxHeartbeats 400000 in
theorem ref_xor (a b : ByteArray) (w : World) (ha : a.size ≤ 140737488355328) (hb : b.size ≤ 140737488355328) :
    Calls Tryz.prog 143 #[.string a, .string b] w fun e w' => e = .returned (.string (xorS a b)) ∧ Below w.heap.size w w' := by
  obtain ⟨i0, hi, hz0, hz1, hz2⟩ := info_parts info8
  obtain ⟨n, hna, hnb, hn⟩ : ∃ n : Nat, n ≤ a.size ∧ n ≤ b.size ∧ (n = a.size ∨ n = b.size) := ⟨min a.size b.size, by omega, by omega, by omega⟩
  go_enter Tryz.func143, Tryz.ntmps143
  go_wp2_with (first | (at_make; refine wpList_make_full _ rfl _ _ 51 rfl w.heap.size 5 i0 (.int .u8 0) 1 Tryz.underlying51 hi hz0 hz1 .i64 .i64 _ _ n rfl rfl (by omega) (by omega) (by rw [hz2]; omega) (by unfold maxLen; omega) (Nat.le_refl _) ?_))
  all_goals
    intro w1 hown hgrow
    rw [made8] at hown
    have hb1 : Below w.heap.size w w1 := (Below.refl _ w).grown hgrow (Nat.le_refl _) (by intro k hk; cases hk)
    clear hgrow
    go_wp2
    go_loopw [7] (fun i wr => ∃ (k : Nat) (l : List UInt8), k ≤ n ∧ i = .int .i64 k ∧ l.length = n ∧ (∀ j, j < k → l[j]? = some (xorAt a b j)) ∧ wr.ownsRow w.heap.size 5 1 (.slice (some ⟨w.heap.size, 0, none⟩) n n) n (cells8 l) ∧ Below w.heap.size w wr) (fun i _ => n - (intOf i).toNat)
    case atStart => exact ⟨0, List.replicate n 0, Nat.zero_le _, rfl, by simp, by intro j hj; omega, hown, hb1⟩
    case round =>
      clear hown hb1
      obtain ⟨k, l, hk, rfl, hl, hbs, hown, hbel⟩ := hrel
      by_cases hlt : k < n
      · have hcell := hown.cellAt k (by omega)
        have hfz := hown.frozenAt k
        rw [cells8_at l k (by omega)] at hcell
        have hka : k < a.size := by omega
        have hkb : k < b.size := by omega
        have hx := xor_bits a b k hka hkb
        go_wp2
        go_region
        go_wp2
        go_roundw
        case rel =>
          have hs := own_store hown hbel (Nat.le_refl _) k (xorAt a b k)
          exact ⟨k + 1, l.set k (xorAt a b k), by omega, by go_num, by simpa using hl, set_fore hl hbs hlt, hs.1.drew, hs.2.drew⟩
        case measure => simp [intOf]; omega
      · have hkn : k = n := by omega
        subst hkn
        have hconv := own_string hown
        go_wp2
        go_ret
        exact ⟨ret_str (xorS_of hna hnb hn hl hbs).symm, hbel⟩

end Go.Proofs.YtanghehmfagmfaaGreatDoor

/-
  Plain mathematics for chapter 5 (stream): quarter rounds, blocks and key streams over words and bytes. No program is named here.
-/
namespace Go.Proofs.YtanghehmfagmfaaGreatDoor
open Go.RowKit
set_option linter.unusedVariables false
set_option maxRecDepth 100000

def qD1 (a b d : Int) : Int := rotl (xorI d (addI a b)) 16
def qC1 (a b c d : Int) : Int := addI c (qD1 a b d)
def qB1 (a b c d : Int) : Int := rotl (xorI b (qC1 a b c d)) 12
def qA (a b c d : Int) : Int := addI (addI a b) (qB1 a b c d)
def qD (a b c d : Int) : Int := rotl (xorI (qD1 a b d) (qA a b c d)) 8
def qC (a b c d : Int) : Int := addI (qC1 a b c d) (qD a b c d)
def qB (a b c d : Int) : Int := rotl (xorI (qB1 a b c d) (qC a b c d)) 7

theorem qD1_w {a b d : Int} (hd : W32 d) : W32 (qD1 a b d) := rotl_w _ (xorI_w hd (addI_w _ _))
theorem qC1_w (a b c d : Int) : W32 (qC1 a b c d) := addI_w _ _
theorem qB1_w {a b c d : Int} (hb : W32 b) : W32 (qB1 a b c d) := rotl_w _ (xorI_w hb (addI_w _ _))
theorem qA_w (a b c d : Int) : W32 (qA a b c d) := addI_w _ _
theorem qD_w {a b c d : Int} (hd : W32 d) : W32 (qD a b c d) := rotl_w _ (xorI_w (qD1_w hd) (addI_w _ _))
theorem qC_w (a b c d : Int) : W32 (qC a b c d) := addI_w _ _
theorem qB_w {a b c d : Int} (hb : W32 b) : W32 (qB a b c d) := rotl_w _ (xorI_w (qB1_w hb) (addI_w _ _))

/-- A quarter round of four words of a list. -/
def qAt (s : List Int) (i j k m : Nat) : List Int :=
  (((s.set i (qA (s.getD i 0) (s.getD j 0) (s.getD k 0) (s.getD m 0))).set j (qB (s.getD i 0) (s.getD j 0) (s.getD k 0) (s.getD m 0))).set k (qC (s.getD i 0) (s.getD j 0) (s.getD k 0) (s.getD m 0))).set m (qD (s.getD i 0) (s.getD j 0) (s.getD k 0) (s.getD m 0))
theorem qAt_len (s : List Int) (i j k m : Nat) : (qAt s i j k m).length = s.length := by simp [qAt]
def allW (s : List Int) : Prop := ∀ x ∈ s, W32 x
theorem getD_w' {s : List Int} (h : allW s) (i : Nat) : W32 (s.getD i 0) := by
  rw [List.getD_eq_getElem?_getD]
  cases e : s[i]? with
  | none => exact ⟨by decide, by decide⟩
  | some v => exact h v (List.mem_of_getElem? e)
theorem set_allW {s : List Int} (h : allW s) (i : Nat) {v : Int} (hv : W32 v) : allW (s.set i v) := by
  intro x hx
  rcases List.mem_or_eq_of_mem_set hx with h' | rfl
  · exact h x h'
  · exact hv
theorem qAt_w {s : List Int} (h : allW s) (i j k m : Nat) : allW (qAt s i j k m) :=
  set_allW (set_allW (set_allW (set_allW h i (qA_w _ _ _ _)) j (qB_w (getD_w' h j))) k (qC_w _ _ _ _)) m (qD_w (getD_w' h m))

/-- The eight quarter rounds of a double round, in their order. -/
def places : List (List Nat) := [[0, 4, 8, 12], [1, 5, 9, 13], [2, 6, 10, 14], [3, 7, 11, 15], [0, 5, 10, 15], [1, 6, 11, 12], [2, 7, 8, 13], [3, 4, 9, 14]]
def place (n i : Nat) : Nat := (places.getD n []).getD i 0
/-- The first n quarter rounds of a double round. -/
def dblTo (s : List Int) : Nat → List Int
  | 0 => s
  | n + 1 => qAt (dblTo s n) (place n 0) (place n 1) (place n 2) (place n 3)
theorem dblTo_len (s : List Int) : ∀ n, (dblTo s n).length = s.length
  | 0 => rfl
  | n + 1 => by rw [dblTo, qAt_len, dblTo_len s n]
theorem dblTo_w {s : List Int} (h : allW s) : ∀ n, allW (dblTo s n)
  | 0 => h
  | n + 1 => qAt_w (dblTo_w h n) _ _ _ _
def dbls (s : List Int) : Nat → List Int
  | 0 => s
  | n + 1 => dblTo (dbls s n) 8
theorem dbls_len (s : List Int) : ∀ n, (dbls s n).length = s.length
  | 0 => rfl
  | n + 1 => by rw [dbls, dblTo_len, dbls_len s n]
theorem dbls_w {s : List Int} (h : allW s) : ∀ n, allW (dbls s n)
  | 0 => h
  | n + 1 => dblTo_w (dbls_w h n) 8

/-- A word of a text. -/
def wordAt (s : ByteArray) (i : Nat) : Int := littleS (s.extract (4 * i) (4 * i + 4)) % 4294967296
def wordsTo (s : ByteArray) (n : Nat) : List Int := (List.range n).map (wordAt s)
theorem wordAt_w (s : ByteArray) (i : Nat) : W32 (wordAt s i) := by unfold W32 wordAt; omega
theorem wordsTo_len (s : ByteArray) (n : Nat) : (wordsTo s n).length = n := by simp [wordsTo]
theorem wordsTo_succ (s : ByteArray) (n : Nat) : wordsTo s (n + 1) = wordsTo s n ++ [wordAt s n] := by simp [wordsTo, List.range_succ]
theorem wordsTo_w (s : ByteArray) (n : Nat) : allW (wordsTo s n) := by
  intro x hx
  simp only [wordsTo, List.mem_map] at hx
  obtain ⟨i, _, rfl⟩ := hx
  exact wordAt_w s i
def fixed4 : List Int := [1634760805, 857760878, 2036477234, 1797285236]
/-- The words with which a block begins. -/
def firstL (key : ByteArray) (c : Int) (nonce : ByteArray) : List Int := fixed4 ++ wordsTo key 8 ++ [c] ++ wordsTo nonce 3
theorem firstL_len (key : ByteArray) (c : Int) (nonce : ByteArray) : (firstL key c nonce).length = 16 := by simp [firstL, wordsTo_len, fixed4]
theorem firstL_w (key : ByteArray) (c : Int) (nonce : ByteArray) (h : W32 c) : allW (firstL key c nonce) := by
  intro x hx
  simp only [firstL, List.mem_append] at hx
  rcases hx with ((hx | hx) | hx) | hx
  · simp only [fixed4, List.mem_cons, List.not_mem_nil, or_false] at hx
    unfold W32
    omega
  · exact wordsTo_w _ _ x hx
  · rw [List.mem_singleton] at hx; exact hx ▸ h
  · exact wordsTo_w _ _ x hx

/-- The first k words of a block as bytes. -/
def tellTo (a b : List Int) (k : Nat) : List UInt8 := ((List.range k).map fun i => putLittle (addI (a.getD i 0) (b.getD i 0)) 4).flatten
theorem tellTo_succ (a b : List Int) (k : Nat) : tellTo a b (k + 1) = tellTo a b k ++ putLittle (addI (a.getD k 0) (b.getD k 0)) 4 := by
  simp [tellTo, List.range_succ]
theorem putLittle4_len (v : Int) : (putLittle v 4).length = 4 := by
  unfold putLittle
  rw [if_pos (by decide)]
  simp
theorem tellTo_len (a b : List Int) (k : Nat) : (tellTo a b k).length = 4 * k := by
  induction k with
  | zero => rfl
  | succ k ih => rw [tellTo_succ, List.length_append, ih, putLittle4_len]; omega
def blockL (key : ByteArray) (c : Int) (nonce : ByteArray) : List UInt8 := tellTo (dbls (firstL key c nonce) 10) (firstL key c nonce) 16
def blockS (key : ByteArray) (c : Int) (nonce : ByteArray) : ByteArray := str (blockL key c nonce)
theorem blockL_len (key : ByteArray) (c : Int) (nonce : ByteArray) : (blockL key c nonce).length = 64 := tellTo_len _ _ _
theorem blockS_size (key : ByteArray) (c : Int) (nonce : ByteArray) : (blockS key c nonce).size = 64 := by rw [blockS, str_size, blockL_len]

/-- k blocks of key stream. -/
def keysTo (key : ByteArray) (c : Int) (nonce : ByteArray) (k : Nat) : List UInt8 := ((List.range k).map fun (i : Nat) => blockL key (addI c (i : Int)) nonce).flatten
theorem keysTo_succ (key : ByteArray) (c : Int) (nonce : ByteArray) (k : Nat) : keysTo key c nonce (k + 1) = keysTo key c nonce k ++ blockL key (addI c (k : Int)) nonce := by
  simp [keysTo, List.range_succ]
theorem keysTo_len (key : ByteArray) (c : Int) (nonce : ByteArray) (k : Nat) : (keysTo key c nonce k).length = 64 * k := by
  induction k with
  | zero => rfl
  | succ k ih => rw [keysTo_succ, List.length_append, ih, blockL_len]; omega
/-- A text xored with the first k blocks. -/
def hideTo (key : ByteArray) (c : Int) (nonce b : ByteArray) (k : Nat) : List UInt8 := xorL b.data.toList (keysTo key c nonce k)
theorem hideTo_len (key : ByteArray) (c : Int) (nonce b : ByteArray) (k : Nat) : (hideTo key c nonce b k).length = min b.size (64 * k) := by
  unfold hideTo xorL
  rw [List.length_zipWith, keysTo_len]
  simp
def hideS (key : ByteArray) (c : Int) (nonce b : ByteArray) : ByteArray := str (hideTo key c nonce b b.size)
theorem hideS_size (key : ByteArray) (c : Int) (nonce b : ByteArray) : (hideS key c nonce b).size = b.size := by
  rw [hideS, str_size, hideTo_len]; omega
theorem xorL_split (l m n : List UInt8) (h : m.length ≤ l.length) : xorL l (m ++ n) = xorL l m ++ xorL (l.drop m.length) n := by
  have e : l = l.take m.length ++ l.drop m.length := (List.take_append_drop _ _).symm
  have e2 : xorL l m = xorL (l.take m.length) m := by
    unfold xorL
    apply List.ext_getElem?
    intro i
    rw [List.getElem?_zipWith, List.getElem?_zipWith, List.getElem?_take]
    by_cases hi : i < m.length
    · rw [if_pos hi]
    · rw [if_neg hi, List.getElem?_eq_none (by omega : m.length ≤ i)]
      cases l[i]? <;> rfl
  rw [e2]
  conv => lhs; rw [e]
  unfold xorL
  rw [List.zipWith_append (by simp; omega)]
theorem xorL_more (l m n : List UInt8) (h : l.length ≤ m.length) : xorL l (m ++ n) = xorL l m := by
  unfold xorL
  apply List.ext_getElem?
  intro i
  rw [List.getElem?_zipWith, List.getElem?_zipWith]
  by_cases hi : i < m.length
  · rw [List.getElem?_append_left hi]
  · rw [List.getElem?_eq_none (by omega : l.length ≤ i)]
/-- One block more. -/
theorem hideTo_succ (key : ByteArray) (c : Int) (nonce b : ByteArray) (k : Nat) (h : 64 * k ≤ b.size) :
    hideTo key c nonce b (k + 1) = hideTo key c nonce b k ++ xorL (b.data.toList.drop (64 * k)) (blockL key (addI c (k : Int)) nonce) := by
  unfold hideTo
  rw [keysTo_succ, xorL_split _ _ _ (by rw [keysTo_len]; simpa using h), keysTo_len]
theorem hideTo_end (key : ByteArray) (c : Int) (nonce b : ByteArray) (k : Nat) (h : b.size ≤ 64 * k) : ∀ n, hideTo key c nonce b (k + n) = hideTo key c nonce b k
  | 0 => rfl
  | n + 1 => by
    rw [← Nat.add_assoc]
    have := hideTo_end key c nonce b k h n
    unfold hideTo at *
    rw [keysTo_succ, xorL_more _ _ _ (by rw [keysTo_len]; simp; omega), this]
theorem hideS_at (key : ByteArray) (c : Int) (nonce b : ByteArray) (k : Nat) (h : b.size ≤ 64 * k) : hideS key c nonce b = str (hideTo key c nonce b k) := by
  unfold hideS
  congr 1
  rcases Nat.le_total k b.size with h' | h'
  · obtain ⟨n, e⟩ := Nat.exists_eq_add_of_le h'
    have h2 := hideTo_end key c nonce b k h n
    rw [← e] at h2
    exact h2
  · obtain ⟨n, e⟩ := Nat.exists_eq_add_of_le h'
    have h2 := hideTo_end key c nonce b b.size (by omega) n
    rw [← e] at h2
    exact h2.symm
theorem addI_addI (a b c : Int) : addI (addI a b) c = addI a (b + c) := by unfold addI; omega
theorem addI_zero {c : Int} (h : W32 c) : addI c 0 = c := by unfold addI W32 at *; omega

end Go.Proofs.YtanghehmfagmfaaGreatDoor

/-
  The contract of package octet's Unhex.
-/
namespace Go.Proofs.YtanghehmfagmfaaGreatDoor
open Go.RowKit
set_option linter.unusedVariables false
set_option maxRecDepth 100000

end Go.Proofs.YtanghehmfagmfaaGreatDoor

/-
  Plain facts on Xor, and 'string(make([]byte, n))' as two steps of a region.
-/
namespace Go.Proofs.YtanghehmfagmfaaGreatDoor
open Go.RowKit
set_option linter.unusedVariables false
set_option maxRecDepth 100000

def zeros (n : Nat) : ByteArray := str (List.replicate n 0)
theorem zip_twice : ∀ (l m : List UInt8), List.zipWith (fun x y => x ^^^ y) (List.zipWith (fun x y => x ^^^ y) l m) m = l.take m.length
  | [], m => by simp
  | x :: l, [] => by simp
  | x :: l, y :: m => by simp [zip_twice l m, UInt8.xor_assoc]
/-- The row of zeros that 'make([]byte, n)' lays. -/
def zeroRow (n : Nat) : Obj := .cells (madeCells #[.int .u8 0] n) 5 (0, 0)

theorem make8 (n : Nat) (hn : n ≤ 140737488355328) (w : World) :
    (Instr.makeSlice 51 (.int .i64 (n : Int)) (.int .i64 (n : Int))).run Tryz.prog w = .ok (.slice (some ⟨w.heap.size, 0, none⟩) n n) (w.alloc (zeroRow n)) := by
  obtain ⟨i0, hi, hz0, hz1, hz2⟩ := info_parts info8
  have hr := run_make (P := Tryz.prog) w 51 5 i0 (.int .u8 0) Tryz.underlying51 hi hz0 .i64 .i64 n n (by omega) (Int.le_refl _) (by rw [hz2]; omega) (by omega)
  simp only [Int.toNat_natCast] at hr
  rw [hr, hz1, Nat.mul_one]
  rfl

theorem conv8 (n g : Nat) (W : World) (hn : n ≤ 140737488355328) (h : W.heap[g]? = some (zeroRow n)) :
    (convert 51 9 (.slice (some ⟨g, 0, none⟩) n n)).run Tryz.prog W = .ok (.string (zeros n)) W := by
  have hown : W.ownsRow 0 5 1 (.slice (some ⟨g, 0, none⟩) n n) n (cells8 (List.replicate n 0)) := by
    refine ⟨by simp [cells8], .inr ⟨g, n, _, rfl, Nat.zero_le _, h, Nat.le_refl _, by unfold maxLen; omega, by simp [size_madeCells], ?_⟩⟩
    rw [List.take_of_length_le (by simp [size_madeCells]), made8]
  exact own_string hown

theorem conv_new (n : Nat) (hn : n ≤ 140737488355328) (W : World) :
    (convert 51 9 (.slice (some ⟨W.heap.size, 0, none⟩) n n)).run Tryz.prog (W.alloc (zeroRow n)) = .ok (.string (zeros n)) (W.alloc (zeroRow n)) :=
  conv8 n _ _ hn (heap_alloc_new W _)

end Go.Proofs.YtanghehmfagmfaaGreatDoor

/-
  The contract of the reference's zeros.
-/
namespace Go.Proofs.YtanghehmfagmfaaGreatDoor
open Go.RowKit
set_option linter.unusedVariables false
set_option maxRecDepth 100000

theorem ref_zeros (n : Nat) (w : World) (hn : n ≤ 140737488355328) :
    Calls Tryz.prog 95 #[.int .i64 n] w fun e w' => e = .returned (.string (str (List.replicate n 0))) ∧ Below w.heap.size w w' := by
  have hmk := make8 n hn w
  have hcv := conv_new n hn w
  have hz : zeros n = str (List.replicate n 0) := rfl
  rw [hz] at hcv
  go_enter Tryz.func95, Tryz.ntmps95
  go_wp2
  go_ret
  exact ⟨rfl, (Below.refl _ _).alloc (Nat.le_refl _) _⟩

end Go.Proofs.YtanghehmfagmfaaGreatDoor
