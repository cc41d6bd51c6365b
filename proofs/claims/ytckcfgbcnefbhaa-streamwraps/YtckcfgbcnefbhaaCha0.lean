/-
  Plain mathematics for chapter 5 (stream): quarter rounds, blocks and key streams over words and bytes. No program is named here.
-/
import Derived.Test.YtckcfgbcnefbhaaSha0
import Derived.Test.YtckcfgbcnefbhaaOct4
import Derived.Test.YtckcfgbcnefbhaaOct6
namespace Go.Proofs.Ytckcfgbcnefbhaa
open Go.RowKit
set_option linter.unusedVariables false
set_option maxRecDepth 100000

/-- A quarter round. -/
def qA1 (a b : Int) : Int := addI a b
def qD1 (a b d : Int) : Int := rotl (xorI d (addI a b)) 16
def qC1 (a b c d : Int) : Int := addI c (qD1 a b d)
def qB1 (a b c d : Int) : Int := rotl (xorI b (qC1 a b c d)) 12
def qA (a b c d : Int) : Int := addI (addI a b) (qB1 a b c d)
def qD (a b c d : Int) : Int := rotl (xorI (qD1 a b d) (qA a b c d)) 8
def qC (a b c d : Int) : Int := addI (qC1 a b c d) (qD a b c d)
def qB (a b c d : Int) : Int := rotl (xorI (qB1 a b c d) (qC a b c d)) 7

theorem qD1_w {a b d : Int} (hd : W32 d) : W32 (qD1 a b d) := rotl_w _ (xorI_w hd (addI_w _ _))
theorem qC1_w (a b c d : Int) : W32 (qC1 a b c d) := addI_w _ _
theorem qB1_w {a b c d : Int} (hb : W32 b) : W32 (qB1 a b c d) := rotl_w _ (xorI_w hb (addI_w _ _))
theorem qA_w (a b c d : Int) : W32 (qA a b c d) := addI_w _ _
theorem qD_w {a b c d : Int} (hd : W32 d) : W32 (qD a b c d) := rotl_w _ (xorI_w (qD1_w hd) (addI_w _ _))
theorem qC_w (a b c d : Int) : W32 (qC a b c d) := addI_w _ _
theorem qB_w {a b c d : Int} (hb : W32 b) : W32 (qB a b c d) := rotl_w _ (xorI_w (qB1_w hb) (addI_w _ _))

/-- A quarter round of four words of a list. -/
def qAt (s : List Int) (i j k m : Nat) : List Int :=
  (((s.set i (qA (s.getD i 0) (s.getD j 0) (s.getD k 0) (s.getD m 0))).set j (qB (s.getD i 0) (s.getD j 0) (s.getD k 0) (s.getD m 0))).set k (qC (s.getD i 0) (s.getD j 0) (s.getD k 0) (s.getD m 0))).set m (qD (s.getD i 0) (s.getD j 0) (s.getD k 0) (s.getD m 0))
theorem qAt_len (s : List Int) (i j k m : Nat) : (qAt s i j k m).length = s.length := by simp [qAt]
def allW (s : List Int) : Prop := ∀ x ∈ s, W32 x
theorem getD_w' {s : List Int} (h : allW s) (i : Nat) : W32 (s.getD i 0) := by
  rw [List.getD_eq_getElem?_getD]
  cases e : s[i]? with
  | none => exact ⟨by decide, by decide⟩
  | some v => exact h v (List.mem_of_getElem? e)
theorem set_allW {s : List Int} (h : allW s) (i : Nat) {v : Int} (hv : W32 v) : allW (s.set i v) := by
  intro x hx
  rcases List.mem_or_eq_of_mem_set hx with h' | rfl
  · exact h x h'
  · exact hv
theorem qAt_w {s : List Int} (h : allW s) (i j k m : Nat) : allW (qAt s i j k m) :=
  set_allW (set_allW (set_allW (set_allW h i (qA_w _ _ _ _)) j (qB_w (getD_w' h j))) k (qC_w _ _ _ _)) m (qD_w (getD_w' h m))

/-- The eight quarter rounds of a double round, in their order. -/
def places : List (List Nat) := [[0, 4, 8, 12], [1, 5, 9, 13], [2, 6, 10, 14], [3, 7, 11, 15], [0, 5, 10, 15], [1, 6, 11, 12], [2, 7, 8, 13], [3, 4, 9, 14]]
def place (n i : Nat) : Nat := (places.getD n []).getD i 0
/-- The first n quarter rounds of a double round. -/
def dblTo (s : List Int) : Nat → List Int
  | 0 => s
  | n + 1 => qAt (dblTo s n) (place n 0) (place n 1) (place n 2) (place n 3)
theorem dblTo_len (s : List Int) : ∀ n, (dblTo s n).length = s.length
  | 0 => rfl
  | n + 1 => by rw [dblTo, qAt_len, dblTo_len s n]
theorem dblTo_w {s : List Int} (h : allW s) : ∀ n, allW (dblTo s n)
  | 0 => h
  | n + 1 => qAt_w (dblTo_w h n) _ _ _ _
def dbls (s : List Int) : Nat → List Int
  | 0 => s
  | n + 1 => dblTo (dbls s n) 8
theorem dbls_len (s : List Int) : ∀ n, (dbls s n).length = s.length
  | 0 => rfl
  | n + 1 => by rw [dbls, dblTo_len, dbls_len s n]
theorem dbls_w {s : List Int} (h : allW s) : ∀ n, allW (dbls s n)
  | 0 => h
  | n + 1 => dblTo_w (dbls_w h n) 8

/-- A word of a text. -/
def wordAt (s : ByteArray) (i : Nat) : Int := littleS (s.extract (4 * i) (4 * i + 4)) % 4294967296
def wordsTo (s : ByteArray) (n : Nat) : List Int := (List.range n).map (wordAt s)
theorem wordAt_w (s : ByteArray) (i : Nat) : W32 (wordAt s i) := by unfold W32 wordAt; omega
theorem wordsTo_len (s : ByteArray) (n : Nat) : (wordsTo s n).length = n := by simp [wordsTo]
theorem wordsTo_succ (s : ByteArray) (n : Nat) : wordsTo s (n + 1) = wordsTo s n ++ [wordAt s n] := by simp [wordsTo, List.range_succ]
theorem wordsTo_w (s : ByteArray) (n : Nat) : allW (wordsTo s n) := by
  intro x hx
  simp only [wordsTo, List.mem_map] at hx
  obtain ⟨i, _, rfl⟩ := hx
  exact wordAt_w s i
def fixed4 : List Int := [1634760805, 857760878, 2036477234, 1797285236]
/-- The words with which a block begins. -/
def firstL (key : ByteArray) (c : Int) (nonce : ByteArray) : List Int := fixed4 ++ wordsTo key 8 ++ [c] ++ wordsTo nonce 3
theorem firstL_len (key : ByteArray) (c : Int) (nonce : ByteArray) : (firstL key c nonce).length = 16 := by simp [firstL, wordsTo_len, fixed4]
theorem firstL_w (key : ByteArray) (c : Int) (nonce : ByteArray) (h : W32 c) : allW (firstL key c nonce) := by
  intro x hx
  simp only [firstL, List.mem_append] at hx
  rcases hx with ((hx | hx) | hx) | hx
  · simp only [fixed4, List.mem_cons, List.not_mem_nil, or_false] at hx
    unfold W32
    omega
  · exact wordsTo_w _ _ x hx
  · rw [List.mem_singleton] at hx; exact hx ▸ h
  · exact wordsTo_w _ _ x hx

/-- The first k words of a block as bytes. -/
def tellTo (a b : List Int) (k : Nat) : List UInt8 := ((List.range k).map fun i => putLittle (addI (a.getD i 0) (b.getD i 0)) 4).flatten
theorem tellTo_succ (a b : List Int) (k : Nat) : tellTo a b (k + 1) = tellTo a b k ++ putLittle (addI (a.getD k 0) (b.getD k 0)) 4 := by
  simp [tellTo, List.range_succ]
theorem putLittle4_len (v : Int) : (putLittle v 4).length = 4 := by
  unfold putLittle
  rw [if_pos (by decide)]
  simp
theorem tellTo_len (a b : List Int) (k : Nat) : (tellTo a b k).length = 4 * k := by
  induction k with
  | zero => rfl
  | succ k ih => rw [tellTo_succ, List.length_append, ih, putLittle4_len]; omega
def blockL (key : ByteArray) (c : Int) (nonce : ByteArray) : List UInt8 := tellTo (dbls (firstL key c nonce) 10) (firstL key c nonce) 16
def blockS (key : ByteArray) (c : Int) (nonce : ByteArray) : ByteArray := str (blockL key c nonce)
theorem blockL_len (key : ByteArray) (c : Int) (nonce : ByteArray) : (blockL key c nonce).length = 64 := tellTo_len _ _ _
theorem blockS_size (key : ByteArray) (c : Int) (nonce : ByteArray) : (blockS key c nonce).size = 64 := by rw [blockS, str_size, blockL_len]

/-- k blocks of key stream. -/
def keysTo (key : ByteArray) (c : Int) (nonce : ByteArray) (k : Nat) : List UInt8 := ((List.range k).map fun (i : Nat) => blockL key (addI c (i : Int)) nonce).flatten
theorem keysTo_succ (key : ByteArray) (c : Int) (nonce : ByteArray) (k : Nat) : keysTo key c nonce (k + 1) = keysTo key c nonce k ++ blockL key (addI c (k : Int)) nonce := by
  simp [keysTo, List.range_succ]
theorem keysTo_len (key : ByteArray) (c : Int) (nonce : ByteArray) (k : Nat) : (keysTo key c nonce k).length = 64 * k := by
  induction k with
  | zero => rfl
  | succ k ih => rw [keysTo_succ, List.length_append, ih, blockL_len]; omega
/-- A text xored with the first k blocks. -/
def hideTo (key : ByteArray) (c : Int) (nonce b : ByteArray) (k : Nat) : List UInt8 := xorL b.data.toList (keysTo key c nonce k)
theorem hideTo_len (key : ByteArray) (c : Int) (nonce b : ByteArray) (k : Nat) : (hideTo key c nonce b k).length = min b.size (64 * k) := by
  unfold hideTo xorL
  rw [List.length_zipWith, keysTo_len]
  simp
def hideS (key : ByteArray) (c : Int) (nonce b : ByteArray) : ByteArray := str (hideTo key c nonce b b.size)
theorem hideS_size (key : ByteArray) (c : Int) (nonce b : ByteArray) : (hideS key c nonce b).size = b.size := by
  rw [hideS, str_size, hideTo_len]; omega
theorem xorL_split (l m n : List UInt8) (h : m.length ≤ l.length) : xorL l (m ++ n) = xorL l m ++ xorL (l.drop m.length) n := by
  have e : l = l.take m.length ++ l.drop m.length := (List.take_append_drop _ _).symm
  have e2 : xorL l m = xorL (l.take m.length) m := by
    unfold xorL
    apply List.ext_getElem?
    intro i
    rw [List.getElem?_zipWith, List.getElem?_zipWith, List.getElem?_take]
    by_cases hi : i < m.length
    · rw [if_pos hi]
    · rw [if_neg hi, List.getElem?_eq_none (by omega : m.length ≤ i)]
      cases l[i]? <;> rfl
  rw [e2]
  conv => lhs; rw [e]
  unfold xorL
  rw [List.zipWith_append (by simp; omega)]
theorem xorL_more (l m n : List UInt8) (h : l.length ≤ m.length) : xorL l (m ++ n) = xorL l m := by
  unfold xorL
  apply List.ext_getElem?
  intro i
  rw [List.getElem?_zipWith, List.getElem?_zipWith]
  by_cases hi : i < m.length
  · rw [List.getElem?_append_left hi]
  · rw [List.getElem?_eq_none (by omega : l.length ≤ i)]
/-- One block more. -/
theorem hideTo_succ (key : ByteArray) (c : Int) (nonce b : ByteArray) (k : Nat) (h : 64 * k ≤ b.size) :
    hideTo key c nonce b (k + 1) = hideTo key c nonce b k ++ xorL (b.data.toList.drop (64 * k)) (blockL key (addI c (k : Int)) nonce) := by
  unfold hideTo
  rw [keysTo_succ, xorL_split _ _ _ (by rw [keysTo_len]; simpa using h), keysTo_len]
theorem hideTo_end (key : ByteArray) (c : Int) (nonce b : ByteArray) (k : Nat) (h : b.size ≤ 64 * k) : ∀ n, hideTo key c nonce b (k + n) = hideTo key c nonce b k
  | 0 => rfl
  | n + 1 => by
    rw [← Nat.add_assoc]
    have := hideTo_end key c nonce b k h n
    unfold hideTo at *
    rw [keysTo_succ, xorL_more _ _ _ (by rw [keysTo_len]; simp; omega), this]
theorem hideS_at (key : ByteArray) (c : Int) (nonce b : ByteArray) (k : Nat) (h : b.size ≤ 64 * k) : hideS key c nonce b = str (hideTo key c nonce b k) := by
  unfold hideS
  congr 1
  rcases Nat.le_total k b.size with h' | h'
  · obtain ⟨n, e⟩ := Nat.exists_eq_add_of_le h'
    have h2 := hideTo_end key c nonce b k h n
    rw [← e] at h2
    exact h2
  · obtain ⟨n, e⟩ := Nat.exists_eq_add_of_le h'
    have h2 := hideTo_end key c nonce b b.size (by omega) n
    rw [← e] at h2
    exact h2.symm
theorem addI_addI (a b c : Int) : addI (addI a b) c = addI a (b + c) := by unfold addI; omega
theorem addI_zero {c : Int} (h : W32 c) : addI c 0 = c := by unfold addI W32 at *; omega

end Go.Proofs.Ytckcfgbcnefbhaa
