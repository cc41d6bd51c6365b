/-
  Parts of this proof, one behind the other: Mac1, Der0, Rat0, Der1, Mac2, Der2, Rat1.
-/
import Derived.Test.YtanghehmfagmfaaGreatDoorBun5
import Derived.Test.YtanghehmfagmfaaGreatDoorBun6
import Derived.Test.YtanghehmfagmfaaGreatDoorBun20
import Derived.RegionTactic
import Derived.Test.YtanghehmfagmfaaGreatDoorBun4
import Derived.Test.YtanghehmfagmfaaGreatDoorBun11
import Derived.Test.YtanghehmfagmfaaGreatDoorBun10

/-
  The mac in plain words, and the contracts of package mac's masked, filled, Of and Check.
-/
namespace Go.Proofs.YtanghehmfagmfaaGreatDoor
open Go.RowKit
set_option linter.unusedVariables false
set_option maxRecDepth 100000

def maskL (m : UInt8) (l : List UInt8) : List UInt8 := l.map (fun x => x ^^^ m)
/-- A key as it is, or its sum. -/
def keyL (l : List UInt8) : List UInt8 := if 64 < l.length then shaL l else l
def fillL (l : List UInt8) : List UInt8 := keyL l ++ List.replicate (64 - (keyL l).length) 0
def macL (k b : List UInt8) : List UInt8 := shaL (maskL 92 (fillL k) ++ shaL (maskL 54 (fillL k) ++ b))
def macS (k b : ByteArray) : ByteArray := str (macL k.data.toList b.data.toList)
theorem maskL_len (m : UInt8) (l : List UInt8) : (maskL m l).length = l.length := by simp [maskL]
theorem keyL_len (l : List UInt8) : (keyL l).length ≤ 64 := by
  unfold keyL
  split
  · rw [shaL_len]; decide
  · omega
theorem fillL_len (l : List UInt8) : (fillL l).length = 64 := by
  have := keyL_len l
  unfold fillL
  rw [List.length_append, List.length_replicate]; omega
theorem macL_len (k b : List UInt8) : (macL k b).length = 32 := shaL_len _
theorem repeat_zero (c : Nat) : (⟨(Lib.repeatL (⟨#[0]⟩ : ByteArray).data.toList c).toArray⟩ : ByteArray) = str (List.replicate c 0) := by
  have := Lib.repeatL_replicate 0 1 c
  rw [Nat.mul_one] at this
  exact congrArg str this

theorem mask_at (l : List UInt8) (m : UInt8) (j : Nat) (h : j < l.length) : (maskL m l)[j]? = some (l[j] ^^^ m) := by
  simp [maskL, h]
theorem mask_bits (x m : UInt8) : bits BinOp.xor IntKind.u8 (x.toNat : Int) (m.toNat : Int) = ((x ^^^ m).toNat : Int) := by
  rw [u8_xor_nat _ _ x.toNat_lt m.toNat_lt, UInt8.toNat_xor]
/-- The first k bytes masked, those behind them as they were. -/
theorem mask_step {l0 l : List UInt8} {m : UInt8} {k : Nat} (hl : l = (maskL m l0).take k ++ l0.drop k) (hk : k < l0.length) :
    l[k]? = some l0[k] ∧ l.set k (l0[k] ^^^ m) = (maskL m l0).take (k + 1) ++ l0.drop (k + 1) := by
  have ht : ((maskL m l0).take k).length = k := by rw [List.length_take, maskL_len]; omega
  have hd : l0.drop k = l0[k] :: l0.drop (k + 1) := (List.drop_eq_getElem_cons hk)
  have e : l = (maskL m l0).take k ++ l0[k] :: l0.drop (k + 1) := by rw [hl, hd]
  have e2 : (maskL m l0).take (k + 1) = (maskL m l0).take k ++ [l0[k] ^^^ m] := by
    rw [List.take_add_one, mask_at l0 m k hk]; rfl
  refine ⟨?_, ?_⟩
  · rw [e, List.getElem?_append_right (by omega), ht]; simp
  · rw [e, List.set_append_right _ _ (by omega), ht, e2, Nat.sub_self, List.set_cons_zero, List.append_assoc]; rfl

set_option maxHeartbeats 1000000 in
theorem mac_masked (l0 : List UInt8) (m : UInt8) (w : World) (hl : l0.length ≤ 140737488355328) :
    Calls Tryz.prog 226 #[.string (str l0), .int .u8 (m.toNat : Int)] w fun e w' => e = .returned (.string (str (maskL m l0))) ∧ Below w.heap.size w w' := by
  have hcv := bytes_conv w (str l0)
  have hnew := bytes_new w (str l0)
  have hbel := bytes_below w (str l0)
  rw [show (str l0).data.toList = l0 from by simp [str]] at hnew
  rw [str_size] at hcv
  generalize Lib.bytesWorld w 5 (str l0) = w1 at *
  generalize grownCap w l0.length 0 5 = cap at *
  go_enter Tryz.func226, Tryz.ntmps226
  go_wp2
  go_loopw [11] (fun i wr => ∃ (k : Nat) (l : List UInt8), k ≤ l0.length ∧ i = .int .i64 k ∧ l = (maskL m l0).take k ++ l0.drop k ∧ BytesZ wr w.heap.size l ∧ Below w.heap.size w wr) (fun i _ => l0.length - (intOf i).toNat)
  case atStart => exact ⟨0, l0, Nat.zero_le _, rfl, by simp, hnew, hbel⟩
  case round =>
    clear hnew hbel
    obtain ⟨k, l, hk, rfl, hl1, hrow, hbel⟩ := hrel
    have hll : l.length = l0.length := by rw [hl1, List.length_append, List.length_take, List.length_drop, maskL_len]; omega
    by_cases hlt : k < l0.length
    · obtain ⟨h1, h2⟩ := mask_step hl1 hlt
      have hcell := hrow.cell k (by omega)
      have hfz := hrow.frozen k (by omega)
      rw [show l[k] = l0[k] from by rw [List.getElem?_eq_getElem (by omega)] at h1; exact Option.some.inj h1] at hcell
      have hx := mask_bits l0[k] m
      go_wp2
      go_roundw
      case rel => exact ⟨k + 1, l.set k (l0[k] ^^^ m), by omega, by go_num, h2, (by have := hrow.set k (by omega) (l0[k] ^^^ m); rw [UInt8.toNat_xor] at this; exact this), hbel.setCell (Nat.le_refl _) _⟩
      case measure => simp [intOf]; omega
    · have hkn : k = l0.length := by omega
      have hconv := hrow.string l0.length cap (by omega)
      have e : l.take l0.length = maskL m l0 := by
        rw [hl1, hkn, List.drop_length, List.append_nil, List.take_take, Nat.min_self, ← maskL_len m l0, List.take_length]
      rw [e] at hconv
      go_wp2
      go_ret
      exact ⟨rfl, hbel⟩

set_option maxHeartbeats 1000000 in
theorem mac_filled (l : List UInt8) (w : World) (hl : l.length ≤ 288230376151711744) :
    Calls Tryz.prog 224 #[.string (str l)] w fun e w' => e = .returned (.string (str (fillL l))) ∧ Below w.heap.size w w' := by
  have hkl := keyL_len l
  have hsz := str_size l
  have hrep : ∀ w1 : World, Calls Tryz.prog 85 #[.string ⟨#[0]⟩, .int .i64 (64 - ((keyL l).length : Int))] w1 fun e w' => e = .returned (.string (str (List.replicate (64 - (keyL l).length) 0))) ∧ Below w1.heap.size w1 w' := by
    intro w1
    have := Tryz.strings_Repeat ⟨#[0]⟩ (64 - (keyL l).length) w1 (by omega) (by show 1 * _ ≤ _; omega)
    rw [repeat_zero] at this
    rwa [show ((64 - (keyL l).length : Nat) : Int) = 64 - ((keyL l).length : Int) from by omega] at this
  have HF : Hid (fillL l = keyL l ++ List.replicate (64 - (keyL l).length) 0) := rfl
  have hcat := str_cat (keyL l) (List.replicate (64 - (keyL l).length) 0)
  rw [← HF.out] at hcat
  have hzs : (str (List.replicate (64 - (keyL l).length) 0)).size = 64 - (keyL l).length := by rw [str_size, List.length_replicate]
  clear HF
  generalize List.replicate (64 - (keyL l).length) (0 : UInt8) = zz at *
  by_cases h : 64 < l.length
  · have e : keyL l = shaL l := by unfold keyL; rw [if_pos h]
    have hss := shaS_str l
    have hs2 := str_size (keyL l)
    rw [← e] at hss
    generalize fillL l = fl at *
    generalize keyL l = kl at *
    clear e
    go_enter Tryz.func224, Tryz.ntmps224
    go_wp2_with (first | (go_at_call 225; refine (digest_sum _ _ (by omega)).mono ?_; rintro e w' ⟨rfl, b⟩; rw [hss]) | (go_at_call 85; refine (hrep _).mono ?_; rintro e w' ⟨rfl, b'⟩))
    go_ret
    exact ⟨rfl, bel_chain b b'⟩
  · have e : keyL l = l := by unfold keyL; rw [if_neg h]
    rw [e] at hrep hcat hzs
    generalize fillL l = fl at *
    clear e hkl
    go_enter Tryz.func224, Tryz.ntmps224
    go_wp2_with (first | (go_at_call 85; refine (hrep _).mono ?_; rintro e w' ⟨rfl, b'⟩))
    go_ret
    exact ⟨rfl, b'⟩

set_option maxHeartbeats 1000000 in
theorem mac_of (k b : ByteArray) (w : World) (hk : k.size ≤ 288230376151711744) (hb : b.size ≤ 140737488355328) :
    Calls Tryz.prog 207 #[.string k, .string b] w fun e w' => e = .returned (.string (macS k b)) ∧ Below w.heap.size w w' := by
  obtain ⟨k, rfl⟩ : ∃ l, k = str l := ⟨_, (str_back k).symm⟩
  obtain ⟨b, rfl⟩ : ∃ l, b = str l := ⟨_, (str_back b).symm⟩
  rw [str_size] at hk hb
  have hfl := fillL_len k
  have HM : Hid (macS (str k) (str b) = str (shaL (maskL 92 (fillL k) ++ shaL (maskL 54 (fillL k) ++ b)))) := rfl
  have hfill := mac_filled k w hk
  generalize fillL k = f at *
  have h1 := fun w => mac_masked f 54 w (by omega)
  have h2 := fun w => mac_masked f 92 w (by omega)
  have c1 := str_cat (maskL 54 f) b
  have s1 := shaS_str (maskL 54 f ++ b)
  have c2 := str_cat (maskL 92 f) (shaL (maskL 54 f ++ b))
  have s2 := shaS_str (maskL 92 f ++ shaL (maskL 54 f ++ b))
  have l1 := shaL_len (maskL 54 f ++ b)
  have l2 := str_size (shaL (maskL 54 f ++ b))
  have l3 := str_size b
  have l4 := str_size (maskL 54 f)
  have l5 := str_size (maskL 92 f)
  have l6 := str_size (maskL 54 f ++ b)
  have l7 := str_size (maskL 92 f ++ shaL (maskL 54 f ++ b))
  have m1 := maskL_len 54 f
  have m2 := maskL_len 92 f
  rw [List.length_append] at l6 l7
  rw [HM.out]
  clear HM
  generalize shaL (maskL 92 f ++ shaL (maskL 54 f ++ b)) = out at *
  generalize maskL 92 f ++ shaL (maskL 54 f ++ b) = x2 at *
  generalize shaL (maskL 54 f ++ b) = y1 at *
  generalize maskL 54 f ++ b = x1 at *
  generalize maskL 92 f = f92 at *
  generalize maskL 54 f = f54 at *
  go_enter Tryz.func207, Tryz.ntmps207
  go_wp2_with (first | (go_at_call 224; refine hfill.mono ?_; rintro e w1 ⟨rfl, b1⟩))
  refine (h1 _).mono ?_
  rintro e w2 ⟨rfl, b2⟩
  go_wp2_with fail
  refine (digest_sum _ _ (by omega)).mono ?_
  rintro e w3 ⟨rfl, b3⟩
  rw [s1]
  go_wp2_with fail
  refine (h2 _).mono ?_
  rintro e w4 ⟨rfl, b4⟩
  go_wp2_with fail
  refine (digest_sum _ _ (by omega)).mono ?_
  rintro e w5 ⟨rfl, b5⟩
  rw [s2]
  go_wp2_with fail
  go_ret
  exact ⟨rfl, bel_chain b1 (bel_chain b2 (bel_chain b3 (bel_chain b4 b5)))⟩

end Go.Proofs.YtanghehmfagmfaaGreatDoor

/-
  HKDF in plain words: the parts, one behind the other, and their first n bytes.
-/
namespace Go.Proofs.YtanghehmfagmfaaGreatDoor
open Go.RowKit
set_option linter.unusedVariables false
set_option maxRecDepth 100000

/-- The i-th part; the one ahead of the first is nothing. -/
def partL (k info : List UInt8) : Nat → List UInt8
  | 0 => []
  | i + 1 => macL k ((partL k info i ++ info) ++ [UInt8.ofNat (i + 1)])
/-- The first i parts, one behind the other. -/
def partsL (k info : List UInt8) : Nat → List UInt8
  | 0 => []
  | i + 1 => partsL k info i ++ partL k info (i + 1)
def expL (k info : List UInt8) (n : Nat) : List UInt8 := (partsL k info ((n + 31) / 32)).take n
def expS (k info : ByteArray) (n : Nat) : ByteArray := str (expL k.data.toList info.data.toList n)
theorem partL_len (k info : List UInt8) (i : Nat) : (partL k info (i + 1)).length = 32 := macL_len _ _
theorem partL_le (k info : List UInt8) (i : Nat) : (partL k info i).length ≤ 32 := by
  cases i with
  | zero => simp [partL]
  | succ i => rw [partL_len]; exact Nat.le_refl _
theorem partsL_len (k info : List UInt8) (i : Nat) : (partsL k info i).length = 32 * i := by
  induction i with
  | zero => rfl
  | succ i ih => rw [partsL, List.length_append, ih, partL_len]; omega
theorem partsL_more (k info : List UInt8) (i d : Nat) : ∃ l, partsL k info (i + d) = partsL k info i ++ l := by
  induction d with
  | zero => exact ⟨[], by simp⟩
  | succ d ih =>
    obtain ⟨l, h⟩ := ih
    exact ⟨l ++ partL k info (i + d + 1), by rw [← Nat.add_assoc, partsL, h, List.append_assoc]⟩
/-- However many parts there are beyond what is asked, the first n bytes are the same. -/
theorem parts_take (k info : List UInt8) (n i : Nat) (h : n ≤ 32 * i) : (partsL k info i).take n = expL k info n := by
  unfold expL
  obtain ⟨d, rfl⟩ : ∃ d, i = (n + 31) / 32 + d := ⟨i - (n + 31) / 32, by omega⟩
  obtain ⟨l, e⟩ := partsL_more k info ((n + 31) / 32) d
  rw [e, List.take_append_of_le_length (by rw [partsL_len]; omega)]
theorem expL_len (k info : List UInt8) (n : Nat) : (expL k info n).length = n := by
  unfold expL
  rw [List.length_take, partsL_len]; omega
theorem expS_size (k info : ByteArray) (n : Nat) : (expS k info n).size = n := by rw [expS, str_size, expL_len]
theorem str_list (l : List UInt8) : (str l).data.toList = l := by simp [str]
theorem putBig1 (i : Nat) (h : i < 256) : putBigS (i : Int) 1 = str [UInt8.ofNat i] := by
  unfold putBigS putBig
  rw [if_pos (by omega)]
  have e : byteOf (i : Int) 0 = UInt8.ofNat i := by
    unfold byteOf
    congr 1
    omega
  simp [e]

end Go.Proofs.YtanghehmfagmfaaGreatDoor

/-
  Plain mathematics of package ratchet: keys that follow keys, epochs, nonces.
-/
namespace Go.Proofs.YtanghehmfagmfaaGreatDoor
set_option linter.unusedVariables false
set_option maxRecDepth 100000
set_option linter.unusedSimpArgs false

def ratchetW : ByteArray := ⟨#[114, 97, 116, 99, 104, 101, 116]⟩
def nextR (k : ByteArray) : ByteArray := expS k ratchetW 32
def turnR (k : ByteArray) : Nat → ByteArray
  | 0 => k
  | n + 1 => nextR (turnR k n)
def epochR (seq : Int) : Int := if seq < 0 then 0 else seq / 8
def nonceR (seq : Int) : ByteArray := if seq < 0 then ⟨#[]⟩ else str (List.replicate 4 0) ++ putBigS seq 8
theorem nextR_size (k : ByteArray) : (nextR k).size = 32 := expS_size _ _ _
theorem turnR_size (k : ByteArray) : ∀ n, (turnR k (n + 1)).size = 32
  | n => nextR_size _
theorem turnR_le (k : ByteArray) (n m : Nat) (h : k.size ≤ m) (hm : 32 ≤ m) : (turnR k n).size ≤ m := by
  cases n with
  | zero => exact h
  | succ n => rw [turnR_size]; exact hm
theorem nonceR_yes {seq : Int} (h : 0 ≤ seq) : nonceR seq = str (List.replicate 4 0) ++ putBigS seq 8 := by unfold nonceR; rw [if_neg (by omega)]
theorem nonceR_no {seq : Int} (h : seq < 0) : nonceR seq = ⟨#[]⟩ := by unfold nonceR; rw [if_pos h]
theorem nonceR_size {seq : Int} (h : 0 ≤ seq) : (nonceR seq).size = 12 := by
  rw [nonceR_yes h, ByteArray.size_append, putBigS_size seq 8 (by decide), str_size]
  rfl
theorem epochR_yes {seq : Int} (h : 0 ≤ seq) : epochR seq = seq / 8 := by unfold epochR; rw [if_neg (by omega)]
theorem epochR_no {seq : Int} (h : seq < 0) : epochR seq = 0 := by unfold epochR; rw [if_pos h]
end Go.Proofs.YtanghehmfagmfaaGreatDoor

/-
  The contracts of package derive's Extract, Expand and Key.
-/
namespace Go.Proofs.YtanghehmfagmfaaGreatDoor
open Go.RowKit
set_option linter.unusedVariables false
set_option maxRecDepth 100000

/-- The first bytes of an owned row as a string. -/
theorem own_string_take {wr : World} {base g k n cap : Nat} {l : List UInt8} (h : wr.ownsRow base 5 1 (.slice (some ⟨g, 0, none⟩) k cap) k (cells8 l)) (hn : n ≤ k) :
    (convert 51 9 (.slice (some ⟨g, 0, none⟩) n cap)).run Tryz.prog wr = .ok (.string (str (l.take n))) wr := by
  have hl : l.length = k := by have := h.1; rw [cells8_len] at this; omega
  have hn' : n = (l.take n).length := by rw [List.length_take]; omega
  have := run_convert_bytes_back (P := Tryz.prog) wr 51 9 5 ⟨g, 0, none⟩ cap (l.take n) Tryz.underlying51 Tryz.underlying5 Tryz.underlying9 (by
    intro j hj
    have hj' : j < n := by omega
    have hc := h.cellAt j (by omega)
    rw [cells8_at l j (by omega)] at hc
    rw [show (⟨g, 0, none⟩ : Addr).add j = ⟨g, j, none⟩ from by simp [Addr.add]; exact fun h => h.symm, List.getElem_take]; exact hc)
  rwa [← hn'] at this
/-- What is owned and not nil lies in a row. -/
theorem owns_shape {w : World} {base e n : Nat} {v : Value} {xs : List Value} (h : w.ownsRow base e 1 v n xs) (hv : v ≠ .slice none 0 0) : ∃ g cap, v = .slice (some ⟨g, 0, none⟩) n cap ∧ n ≤ cap := by
  rcases h.2 with ⟨rfl, _⟩ | ⟨g, cap, cur, rfl, _, _, hc, _⟩
  · exact absurd rfl hv
  · exact ⟨g, cap, rfl, hc⟩

set_option maxHeartbeats 1000000 in
theorem derive_expand_yes (kl il : List UInt8) (n : Nat) (w : World) (hk : kl.length ≤ 288230376151711744) (hi : il.length ≤ 70368744177664) (hn : n ≤ 8160) :
    Calls Tryz.prog 185 #[.string (str kl), .string (str il), .int .i64 n] w fun e w' => e = .returned (.tuple #[.string (str (expL kl il n)), .bool true]) ∧ Below w.heap.size w w' := by
  obtain ⟨i0, hi0, hz0, hz1, hz2⟩ := info_parts info8
  have hown0 : (w.alloc (.cells (cells8 (zeros8 (n + 32))).toArray 5)).ownsRow w.heap.size 5 1 (.slice (some ⟨w.heap.size, 0, none⟩) (32 * 0) (n + 32)) (32 * 0) (cells8 (partsL kl il 0)) := (RowIs.new w 5 (cells8 (zeros8 (n + 32)))).owns (Nat.le_refl _) (by rw [cells8_len, zeros8_len]) (by omega) (by unfold maxLen; omega)
  have hb0 : Below w.heap.size w (w.alloc (.cells (cells8 (zeros8 (n + 32))).toArray 5)) := (Below.refl w.heap.size w).alloc (Nat.le_refl _) _
  go_enter Tryz.func185, Tryz.ntmps185
  go_wp2_with (first | (at_make; refine wpList_make8 rfl _ _ rfl _ _ 0 (n + 32) rfl rfl rfl (by omega) (by omega) (by omega) w.heap.size rfl ?_))
  generalize w.alloc (.cells (cells8 (zeros8 (n + 32))).toArray 5) = w1 at *
  go_loopw [8, 9, 10] (fun v t i wr => ∃ j g cap : Nat, 32 * j < n + 32 ∧ 32 * j ≤ cap ∧ v = .slice (some ⟨g, 0, none⟩) (32 * j) cap ∧ t = .string (str (partL kl il j)) ∧ i = .int .i64 ((j : Int) + 1) ∧ wr.ownsRow w.heap.size 5 1 (.slice (some ⟨g, 0, none⟩) (32 * j) cap) (32 * j) (cells8 (partsL kl il j)) ∧ Below w.heap.size w wr) (fun _ _ i _ => 256 - (intOf i).toNat)
  case atStart => exact ⟨0, w.heap.size, n + 32, by omega, by omega, rfl, rfl, rfl, hown0, hb0⟩
  case round =>
    have hws : w.heap.size ≤ w.heap.size := Nat.le_refl _
    clear hown0 hb0
    obtain ⟨j, g, cap, hj, hcap, rfl, rfl, rfl, hown, hbel⟩ := hrel
    by_cases hlt : 32 * j < n
    · have hpl := partL_le kl il j
      have hpn := partL_len kl il j
      have HP : Hid (partsL kl il (j + 1) = partsL kl il j ++ partL kl il (j + 1)) := rfl
      have HM : Hid (macS (str kl) (str ((partL kl il j ++ il) ++ [UInt8.ofNat (j + 1)])) = str (partL kl il (j + 1))) := by
        rw [Hid, macS, str_list, str_list]; rfl
      have c1 := str_cat (partL kl il j) il
      have c2 := str_cat (partL kl il j ++ il) [UInt8.ofNat (j + 1)]
      have p1 : putBigS ((j : Int) + 1) 1 = str [UInt8.ofNat (j + 1)] := putBig1 (j + 1) (by omega)
      have l1 := str_size (partL kl il j)
      have l2 := str_size il
      have l3 := str_size (partL kl il j ++ il)
      have l4 := str_size [UInt8.ofNat (j + 1)]
      have l5 := str_size ((partL kl il j ++ il) ++ [UInt8.ofNat (j + 1)])
      have l6 := str_size (partL kl il (j + 1))
      have l7 := str_size kl
      have l8 : [UInt8.ofNat (j + 1)].length = 1 := rfl
      rw [List.length_append, List.length_append] at l5
      rw [List.length_append] at l3
      rw [l8] at l4 l5
      generalize (partL kl il j ++ il) ++ [UInt8.ofNat (j + 1)] = x2 at *
      generalize partL kl il j ++ il = x1 at *
      generalize [UInt8.ofNat (j + 1)] = y1 at *
      generalize partL kl il j = p at *
      generalize HQ : partL kl il (j + 1) = p' at *
      have HQ : Hid (partL kl il (j + 1) = p') := HQ
      go_wp2_with (first | (go_at_call 34; refine (octet_putBig _ _ _ (by omega) (by omega)).mono ?_; rintro e w2 ⟨rfl, hb2⟩; rw [p1]) | (go_at_call 207; refine (mac_of _ _ _ (by omega) (by omega)).mono ?_; rintro e w3 ⟨rfl, hb3⟩; rw [HM.out]) | (at_builtin; refine Lib.wpList_append_own_string (P := Tryz.prog) _ rfl _ _ 51 9 rfl w.heap.size 5 i0 Tryz.underlying51 Tryz.underlying9 hi0 hz0 hz1 hz2 _ (32 * j) (cells8 (partsL kl il j)) rfl (owns_below hown (bel_chain hb2 hb3)) (str p') rfl (by rw [l6]; unfold maxLen; omega) (by rw [l6]; omega) (Nat.le_trans (Nat.le_trans hws hbel.size) (bel_chain hb2 hb3).size) ?_; intro v' w4 hown4 hgrow4 hiff))
      have hbel4 : Below w.heap.size w w4 := (hbel.trans ((bel_chain hb2 hb3).mono (Nat.le_trans hws hbel.size))).grown hgrow4 (Nat.le_trans (Nat.le_trans hws hbel.size) (bel_chain hb2 hb3).size) (owns_block hown)
      rw [l6, hpn, strCells_str, ← cells8_append, ← HP.out, show 32 * j + 32 = 32 * (j + 1) from by omega] at hown4
      obtain ⟨g', cap', rfl, hc'⟩ := owns_shape hown4 (fun e => by cases (hiff.1 e).1)
      clear hiff hgrow4
      go_wp2
      go_roundw
      case rel => exact ⟨j + 1, g', cap', by omega, hc', rfl, by rw [HQ.out], by go_num, hown4, hbel4⟩
      case measure => simp [intOf]; omega
    · have hconv := own_string_take hown (n := n) (by omega)
      rw [parts_take kl il n j (by omega)] at hconv
      have hnc : n ≤ cap := by omega
      clear hown
      go_wp2
      go_ret2
      exact ⟨rfl, hbel⟩

theorem derive_expand (k info : ByteArray) (n : Nat) (w : World) (hk : k.size ≤ 288230376151711744) (hi : info.size ≤ 70368744177664) (hn : n ≤ 8160) :
    Calls Tryz.prog 185 #[.string k, .string info, .int .i64 n] w fun e w' => e = .returned (.tuple #[.string (expS k info n), .bool true]) ∧ Below w.heap.size w w' := by
  obtain ⟨k, rfl⟩ : ∃ l, k = str l := ⟨_, (str_back k).symm⟩
  obtain ⟨info, rfl⟩ : ∃ l, info = str l := ⟨_, (str_back info).symm⟩
  rw [str_size] at hk hi
  exact derive_expand_yes k info n w hk hi hn

end Go.Proofs.YtanghehmfagmfaaGreatDoor

/-
  The contract of the reference's Mac.
-/
namespace Go.Proofs.YtanghehmfagmfaaGreatDoor
open Go.RowKit
set_option linter.unusedVariables false
set_option maxRecDepth 100000

theorem zeroRow_is (n : Nat) : zeroRow n = .cells (cells8 (List.replicate n 0)).toArray 5 := by
  unfold zeroRow
  congr 1
  apply Array.toList_inj.1
  exact made8 n
theorem row_string {w : World} {g n : Nat} {l : List UInt8} (h : RowIs w g 5 (cells8 l)) (hl : l.length = n) :
    (convert 51 9 (.slice (some ⟨g, 0, none⟩) n n)).run Tryz.prog w = .ok (.string (str l)) w := by
  subst hl
  refine run_convert_bytes_back w _ _ 5 ⟨g, 0, none⟩ _ l Tryz.underlying51 Tryz.underlying5 Tryz.underlying9 ?_
  intro j hj
  rw [show (⟨g, 0, none⟩ : Addr).add j = ⟨g, j, none⟩ from by simp [Addr.add]; exact fun h => h.symm, h.cell, cells8_at l j hj]

theorem two_rows (W : World) : RowIs ((W.alloc (zeroRow 64)).alloc (zeroRow 64)).drew W.heap.size 5 (cells8 (List.replicate 64 0)) ∧ RowIs ((W.alloc (zeroRow 64)).alloc (zeroRow 64)).drew (W.heap.size + 1) 5 (cells8 (List.replicate 64 0)) ∧ Below W.heap.size W ((W.alloc (zeroRow 64)).alloc (zeroRow 64)).drew := by
  rw [zeroRow_is]
  refine ⟨((RowIs.new W _ _).alloc _).drew, ?_, (((Below.refl _ _).alloc (Nat.le_refl _) _).alloc (by simp) _).drew⟩
  have := RowIs.new (W.alloc (.cells (cells8 (List.replicate 64 0)).toArray 5)) 5 (cells8 (List.replicate 64 0))
  rw [show (W.alloc (.cells (cells8 (List.replicate 64 0)).toArray 5)).heap.size = W.heap.size + 1 from by simp] at this
  exact this.drew
/-- The first j bytes masked, zeros behind them. -/
def maskTo (m : UInt8) (f : List UInt8) (j : Nat) : List UInt8 := (maskL m f).take j ++ List.replicate (64 - j) 0
theorem maskTo_len (m : UInt8) (f : List UInt8) (j : Nat) (hf : f.length = 64) (hj : j ≤ 64) : (maskTo m f j).length = 64 := by
  unfold maskTo
  rw [List.length_append, List.length_take, maskL_len, List.length_replicate]; omega
theorem maskTo_zero (m : UInt8) (f : List UInt8) : maskTo m f 0 = List.replicate 64 0 := by simp [maskTo]
theorem maskTo_all (m : UInt8) (f : List UInt8) (hf : f.length = 64) : maskTo m f 64 = maskL m f := by
  unfold maskTo
  rw [List.take_of_length_le (by rw [maskL_len]; omega)]; simp
theorem maskTo_step (m : UInt8) (f : List UInt8) (j : Nat) (x : UInt8) (hf : f.length = 64) (hj : j < 64) (hx : f[j]? = some x) : (maskTo m f j).set j (x ^^^ m) = maskTo m f (j + 1) := by
  have hj' : j < f.length := by omega
  rw [List.getElem?_eq_getElem hj'] at hx
  have hx' := Option.some.inj hx
  have ht : ((maskL m f).take j).length = j := by rw [List.length_take, maskL_len]; omega
  unfold maskTo
  rw [List.set_append_right _ _ (by omega), ht, Nat.sub_self, show 64 - j = (64 - (j + 1)) + 1 from by omega, List.replicate_succ, List.set_cons_zero, List.take_add_one, mask_at f m j hj', hx', List.append_assoc]
  rfl
theorem row_mask {w : World} {g j : Nat} {m : UInt8} {f : List UInt8} {x : UInt8} (h : RowIs w g 5 (cells8 (maskTo m f j))) (hf : f.length = 64) (hj : j < 64) (hx : f[j]? = some x) :
    RowIs (w.setCell ⟨g, j, none⟩ (.int .u8 ((x.toNat ^^^ m.toNat : Nat) : Int))) g 5 (cells8 (maskTo m f (j + 1))) := by
  have := h.set j (cell8 (x ^^^ m))
  rw [cells8_set, maskTo_step m f j x hf hj hx, cell8, UInt8.toNat_xor] at this
  exact this
theorem row_mask_cell {w : World} {g j : Nat} {m : UInt8} {f : List UInt8} (h : RowIs w g 5 (cells8 (maskTo m f j))) (hf : f.length = 64) (hj : j < 64) :
    ∃ v, w.cell? ⟨g, j, none⟩ = some v := by
  have hl := maskTo_len m f j hf (by omega)
  exact ⟨_, h.cellAt (cells8_at _ j (by omega))⟩

set_option maxHeartbeats 4000000 in
theorem ref_mac_list (k b : List UInt8) (w : World) (hk : k.length ≤ 288230376151711744) (hb : b.length ≤ 140737488355328) :
    Calls Tryz.prog 149 #[.string (str k), .string (str b)] w fun e w' => e = .returned (.string (str (macL k b))) ∧ Below w.heap.size w w' := by
  have hkl := keyL_len k
  have hsz := str_size k
  have hrep : ∀ w1 : World, Calls Tryz.prog 95 #[.int .i64 (64 - ((keyL k).length : Int))] w1 fun e w' => e = .returned (.string (str (List.replicate (64 - (keyL k).length) 0))) ∧ Below w1.heap.size w1 w' := by
    intro w1
    have := ref_zeros (64 - (keyL k).length) w1 (by omega)
    rwa [show ((64 - (keyL k).length : Nat) : Int) = 64 - ((keyL k).length : Int) from by omega] at this
  have hcat := str_cat (keyL k) (List.replicate (64 - (keyL k).length) 0)
  have HF : fillL k = keyL k ++ List.replicate (64 - (keyL k).length) 0 := rfl
  rw [← HF] at hcat
  have hzs : (str (List.replicate (64 - (keyL k).length) 0)).size = 64 - (keyL k).length := by rw [str_size, List.length_replicate]
  have hfl := fillL_len k
  have HM : Hid (macL k b = shaL (maskL 92 (fillL k) ++ shaL (maskL 54 (fillL k) ++ b))) := rfl
  rw [HM.out]
  clear HM HF
  generalize List.replicate (64 - (keyL k).length) (0 : UInt8) = zz at *
  generalize fillL k = f at *
  have m1 := maskL_len 54 f
  have m2 := maskL_len 92 f
  have c1 := str_cat (maskL 54 f) b
  have s1 := shaS_str (maskL 54 f ++ b)
  have c2 := str_cat (maskL 92 f) (shaL (maskL 54 f ++ b))
  have s2 := shaS_str (maskL 92 f ++ shaL (maskL 54 f ++ b))
  have l1 := shaL_len (maskL 54 f ++ b)
  have l2 := str_size (shaL (maskL 54 f ++ b))
  have l3 := str_size b
  have l4 := str_size (maskL 54 f)
  have l5 := str_size (maskL 92 f)
  have l6 := str_size (maskL 54 f ++ b)
  have l7 := str_size (maskL 92 f ++ shaL (maskL 54 f ++ b))
  rw [List.length_append] at l6 l7
  generalize shaL (maskL 92 f ++ shaL (maskL 54 f ++ b)) = out at *
  generalize maskL 92 f ++ shaL (maskL 54 f ++ b) = x2 at *
  generalize shaL (maskL 54 f ++ b) = y1 at *
  generalize maskL 54 f ++ b = x1 at *
  generalize H92 : maskL 92 f = f92 at *
  generalize H54 : maskL 54 f = f54 at *
  have H92 : Hid (maskL 92 f = f92) := H92
  have H54 : Hid (maskL 54 f = f54) := H54
  have hss := shaS_str k
  have hs2 := str_size (keyL k)
  have hmk : ∀ w, (Instr.makeSlice 51 (.int .i64 64) (.int .i64 64)).run Tryz.prog w = .ok (.slice (some ⟨w.heap.size, 0, none⟩) 64 64) (w.alloc (zeroRow 64)) := make8 64 (by decide)
  rcases (Classical.em (64 < k.length)) with h | h
  case' inl =>
    have e : keyL k = shaL k := by unfold keyL; rw [if_pos h]
    rw [← e] at hss
    generalize keyL k = kl at *
    clear e
    go_enter Tryz.func149, Tryz.ntmps149
    go_wp2_with (first | (go_at_call 187; refine (ref_sum _ _ (by omega)).mono ?_; rintro e w0 ⟨rfl, b0⟩; rw [hss]) | (go_at_call 95; refine (hrep _).mono ?_; rintro e w' ⟨rfl, b'⟩))
    replace b' := bel_chain b0 b'
    clear b0 h
  case' inr =>
    have e : keyL k = k := by unfold keyL; rw [if_neg h]
    rw [e] at hrep hcat hzs
    clear e hkl hs2
    go_enter Tryz.func149, Tryz.ntmps149
    go_wp2_with (first | (go_at_call 95; refine (hrep _).mono ?_; rintro e w' ⟨rfl, b'⟩))
    clear h
  all_goals
    clear hrep hss hcat hzs
    go_cut [5, 6] (fun s5 s6 wx => ∃ gi go : Nat, s5 = .slice (some ⟨gi, 0, none⟩) 64 64 ∧ s6 = .slice (some ⟨go, 0, none⟩) 64 64 ∧ gi ≠ go ∧ w'.heap.size ≤ gi ∧ w'.heap.size ≤ go ∧ RowIs wx gi 5 (cells8 (List.replicate 64 0)) ∧ RowIs wx go 5 (cells8 (List.replicate 64 0)) ∧ Below w'.heap.size w' wx)
    case first =>
      go_region
      all_goals
        go_wp2
        go_meet
        have h2 := two_rows w'
        first
          | exact ⟨_, _, rfl, rfl, by omega, by omega, by omega, h2.1, h2.2.1, h2.2.2⟩
          | exact ⟨_, _, rfl, rfl, by omega, by omega, by omega, h2.2.1, h2.1, h2.2.2⟩
    case rest =>
      obtain ⟨gi, go, rfl, rfl, hne, hgi, hgo, hri, hro, hbel⟩ := hcut
      go_wp2
      rw [← maskTo_zero 54 f] at hri
      rw [← maskTo_zero 92 f] at hro
      go_loopw [7] (fun i wr => ∃ j : Nat, j ≤ 64 ∧ i = .int .i64 j ∧ RowIs wr gi 5 (cells8 (maskTo 54 f j)) ∧ RowIs wr go 5 (cells8 (maskTo 92 f j)) ∧ Below w'.heap.size w' wr) (fun i _ => 64 - (intOf i).toNat)
      case atStart => exact ⟨0, by omega, rfl, hri, hro, hbel⟩
      case round =>
        clear hri hro hbel
        obtain ⟨j, hj, rfl, hri, hro, hbel⟩ := hrel
        by_cases hlt : j < 64
        · obtain ⟨v1, hc1⟩ := row_mask_cell hri hfl hlt
          obtain ⟨v2, hc2⟩ := row_mask_cell hro hfl hlt
          have hf1 := hri.frozen j
          have hf2 := hro.frozen j
          have hss := str_size f
          have hjs : j < (str f).size := by omega
          have hx1 : bits BinOp.xor IntKind.u8 ((str f)[j].toNat : Int) 54 = (((str f)[j].toNat ^^^ 54 : Nat) : Int) := u8_xor_nat _ 54 (UInt8.toNat_lt _) (by decide)
          have hx2 : bits BinOp.xor IntKind.u8 ((str f)[j].toNat : Int) 92 = (((str f)[j].toNat ^^^ 92 : Nat) : Int) := u8_xor_nat _ 92 (UInt8.toNat_lt _) (by decide)
          have HX : Hid (f[j]? = some (str f)[j]) := by rw [Hid, List.getElem?_eq_getElem (by omega)]; rfl
          go_wp2
          go_region
          all_goals
            go_wp2
            go_roundw
            case rel =>
              have r1 := row_mask hri hfl hlt HX.out
              have r2 := row_mask hro hfl hlt HX.out
              first
                | exact ⟨j + 1, by omega, by go_num, (r1.setOther (a := ⟨go, j, none⟩) hne _).drew, (row_mask (hro.setOther (a := ⟨gi, j, none⟩) (Ne.symm hne) _) hfl hlt HX.out).drew, ((hbel.setCell hgi _).setCell hgo _).drew⟩
                | exact ⟨j + 1, by omega, by go_num, (row_mask (hri.setOther (a := ⟨go, j, none⟩) hne _) hfl hlt HX.out).drew, (r2.setOther (a := ⟨gi, j, none⟩) (Ne.symm hne) _).drew, ((hbel.setCell hgo _).setCell hgi _).drew⟩
            case measure => simp [intOf]; omega
        · have hj64 : j = 64 := by omega
          subst hj64
          rw [maskTo_all 54 f hfl, H54.out] at hri
          rw [maskTo_all 92 f hfl, H92.out] at hro
          have hgl := hro.lt
          have hci := row_string hri (n := 64) (by omega)
          have hco := row_string hro (n := 64) (by omega)
          have hcid := row_string hri.drew (n := 64) (by omega)
          have hcod := row_string hro.drew (n := 64) (by omega)
          have HB : Hid (∀ w2, Below wr.heap.size wr.drew w2 → (convert 51 9 (.slice (some ⟨go, 0, none⟩) 64 64)).run Tryz.prog w2 = .ok (.string (str f92)) w2) := fun w2 b2 => row_string (hro.drew.below b2 hgl) (by omega)
          clear hri hro
          go_wp2
          go_region_with (go_at_call 187; refine (ref_sum _ _ (by omega)).mono ?_; rintro e w2 ⟨rfl, b2⟩; first | (rw [s1]; have hc2 := HB.out _ b2; have b3 : Below wr.drew.heap.size wr.drew w2 := b2; clear b2) | (rw [s2]; have b4 : Below wr.heap.size wr.drew w2 := bel_chain b3 b2; clear b2 b3))
          all_goals
            go_wp2
            go_ret
            exact ⟨rfl, bel_chain b' (hbel.drew.trans (b4.mono hbel.size))⟩

theorem ref_mac (k b : ByteArray) (w : World) (hk : k.size ≤ 288230376151711744) (hb : b.size ≤ 140737488355328) :
    Calls Tryz.prog 149 #[.string k, .string b] w fun e w' => e = .returned (.string (macS k b)) ∧ Below w.heap.size w w' := by
  obtain ⟨k, rfl⟩ : ∃ l, k = str l := ⟨_, (str_back k).symm⟩
  obtain ⟨b, rfl⟩ : ∃ l, b = str l := ⟨_, (str_back b).symm⟩
  rw [str_size] at hk hb
  exact ref_mac_list k b w hk hb

end Go.Proofs.YtanghehmfagmfaaGreatDoor

/-
  The contracts of the reference's Extract, Expand and Key.
-/
namespace Go.Proofs.YtanghehmfagmfaaGreatDoor
open Go.RowKit
set_option linter.unusedVariables false
set_option maxRecDepth 100000

theorem one_string (W : World) (i : Nat) (h : i < 256) :
    (convert 51 9 (.slice (some ⟨W.heap.size, 0, none⟩) 1 1)).run Tryz.prog (W.alloc (.cells #[.int .u8 (i : Int)] 5)) = .ok (.string (str [UInt8.ofNat i])) (W.alloc (.cells #[.int .u8 (i : Int)] 5)) := by
  have e : (Obj.cells #[.int .u8 (i : Int)] 5 (0, 0)) = .cells (cells8 [UInt8.ofNat i]).toArray 5 := by
    simp [cells8, cell8]
    omega
  have := row_string (RowIs.new W 5 (cells8 [UInt8.ofNat i])) (n := 1) rfl
  rw [← e] at this
  exact this

theorem str_take (l : List UInt8) (n : Nat) : (str l).extract 0 n = str (l.take n) := by
  unfold str
  apply ByteArray.ext
  apply Array.toList_inj.1
  simp [ByteArray.data_extract]

set_option maxHeartbeats 1000000 in
theorem ref_expand_yes (kl il : List UInt8) (n : Nat) (w : World) (hk : kl.length ≤ 288230376151711744) (hi : il.length ≤ 70368744177664) (hn : n ≤ 8160) :
    Calls Tryz.prog 102 #[.string (str kl), .string (str il), .int .i64 n] w fun e w' => e = .returned (.tuple #[.string (str (expL kl il n)), .bool true]) ∧ Below w.heap.size w w' := by
  obtain ⟨i0, hi0, hz0, hz1, hz2⟩ := info_parts info8
  go_enter Tryz.func102, Tryz.ntmps102
  go_wp2
  go_loopw [8, 9, 10] (fun v t i wr => ∃ j : Nat, 32 * j < n + 32 ∧ v = .string (str (partsL kl il j)) ∧ t = .string (str (partL kl il j)) ∧ i = .int .i64 ((j : Int) + 1) ∧ Below w.heap.size w wr) (fun _ _ i _ => 256 - (intOf i).toNat)
  case atStart => exact ⟨0, by omega, rfl, rfl, rfl, Below.refl _ _⟩
  case round =>
    have hws : w.heap.size ≤ w.heap.size := Nat.le_refl _
    obtain ⟨j, hj, rfl, rfl, rfl, hbel⟩ := hrel
    have hps := partsL_len kl il j
    have ls := str_size (partsL kl il j)
    by_cases hlt : 32 * j < n
    · have hpl := partL_le kl il j
      have hpn := partL_len kl il j
      have HP : Hid (partsL kl il (j + 1) = partsL kl il j ++ partL kl il (j + 1)) := rfl
      have HM : Hid (macS (str kl) (str ((partL kl il j ++ il) ++ [UInt8.ofNat (j + 1)])) = str (partL kl il (j + 1))) := by
        rw [Hid, macS, str_list, str_list]; rfl
      have c1 := str_cat (partL kl il j) il
      have c2 := str_cat (partL kl il j ++ il) [UInt8.ofNat (j + 1)]
      have c3 := str_cat (partsL kl il j) (partL kl il (j + 1))
      have p1 : (convert 51 9 (.slice (some ⟨wr.heap.size, 0, none⟩) 1 1)).run Tryz.prog (wr.alloc (.cells #[.int .u8 ((j : Int) + 1)] 5)) = .ok (.string (str [UInt8.ofNat (j + 1)])) (wr.alloc (.cells #[.int .u8 ((j : Int) + 1)] 5)) := one_string wr (j + 1) (by omega)
      have l1 := str_size (partL kl il j)
      have l2 := str_size il
      have l3 := str_size (partL kl il j ++ il)
      have l4 := str_size [UInt8.ofNat (j + 1)]
      have l5 := str_size ((partL kl il j ++ il) ++ [UInt8.ofNat (j + 1)])
      have l6 := str_size (partL kl il (j + 1))
      have l7 := str_size kl
      have l8 : [UInt8.ofNat (j + 1)].length = 1 := rfl
      rw [List.length_append, List.length_append] at l5
      rw [List.length_append] at l3
      rw [l8] at l4 l5
      generalize (partL kl il j ++ il) ++ [UInt8.ofNat (j + 1)] = x2 at *
      generalize partL kl il j ++ il = x1 at *
      generalize [UInt8.ofNat (j + 1)] = y1 at *
      generalize partL kl il j = p at *
      generalize HQ : partL kl il (j + 1) = p' at *
      have HQ : Hid (partL kl il (j + 1) = p') := HQ
      generalize partsL kl il j ++ p' = ps' at *
      generalize partsL kl il j = ps at *
      go_wp2_with (first | (go_at_call 149; refine (ref_mac _ _ _ (by omega) (by omega)).mono ?_; rintro e w3 ⟨rfl, hb3⟩; rw [HM.out]))
      have hba := hbel.alloc hbel.size (.cells #[.int .u8 ((j : Int) + 1)] 5)
      go_roundw
      case rel => exact ⟨j + 1, by omega, by rw [HP.out], by rw [HQ.out], by go_num, hba.trans (hb3.mono hba.size)⟩
      case measure => simp [intOf]; omega
    · have ht := parts_take kl il n j (by omega)
      have hx := str_take (partsL kl il j) n
      rw [ht] at hx
      generalize partsL kl il j = ps at *
      go_wp2
      go_ret2
      exact ⟨rfl, hbel⟩

theorem ref_expand (k info : ByteArray) (n : Nat) (w : World) (hk : k.size ≤ 288230376151711744) (hi : info.size ≤ 70368744177664) (hn : n ≤ 8160) :
    Calls Tryz.prog 102 #[.string k, .string info, .int .i64 n] w fun e w' => e = .returned (.tuple #[.string (expS k info n), .bool true]) ∧ Below w.heap.size w w' := by
  obtain ⟨k, rfl⟩ : ∃ l, k = str l := ⟨_, (str_back k).symm⟩
  obtain ⟨info, rfl⟩ : ∃ l, info = str l := ⟨_, (str_back info).symm⟩
  rw [str_size] at hk hi
  exact ref_expand_yes k info n w hk hi hn

end Go.Proofs.YtanghehmfagmfaaGreatDoor

/-
  The contracts of the reference's Turn, Nonce, Session.
-/
namespace Go.Proofs.YtanghehmfagmfaaGreatDoor
open Go.RowKit
set_option linter.unusedVariables false
set_option maxRecDepth 100000
set_option linter.unusedSimpArgs false

theorem ref_turn (key : ByteArray) (n : Nat) (w : World) (hk : key.size ≤ 1000000) (hn : n ≤ 1000) : Calls Tryz.prog 40 #[.string key, .int .i64 n] w fun e w' => e = .returned (.string (turnR key n)) ∧ Below w.heap.size w w' := by
  have HK : Hid (∀ j, (turnR key j).size ≤ 1000000) := fun j => turnR_le key j 1000000 hk (by decide)
  have HS : Hid (∀ j, turnR key (j + 1) = expS (turnR key j) ratchetW 32) := fun j => rfl
  have H0 : Hid (turnR key 0 = key) := rfl
  clear hk
  go_enter Tryz.func40, Tryz.ntmps40
  go_wp2_with fail
  go_loopw [0, 5] (fun s i wr => ∃ k : Nat, k ≤ n ∧ i = .int .i64 k ∧ s = .string (turnR key k) ∧ Below w.heap.size w wr) (fun _ i _ => n - (intOf i).toNat)
  case atStart => exact ⟨0, Nat.zero_le _, rfl, by rw [H0.out], Below.refl _ _⟩
  case round =>
    obtain ⟨k, hk, rfl, rfl, hb⟩ := hrel
    by_cases hlt : k < n
    · have dlt : decide ((k : Int) < (n : Int)) = true := by simp; omega
      have PE := fun w => ref_expand (turnR key k) ratchetW 32 w (by have := HK.out k; omega) (by decide) (by decide)
      rw [← HS.out] at PE
      have P : Hid _ := PE
      clear PE
      unfold ratchetW at P
      generalize turnR key k = T at *
      go_wp2_with fail
      refine (P.out _).mono ?_
      rintro e w1 ⟨rfl, b1⟩
      clear P
      go_wp2
      go_roundw
      case rel => exact ⟨k + 1, by omega, by go_num, rfl, hb.trans (b1.mono hb.size)⟩
      case measure => simp [intOf]; omega
    · obtain rfl : k = n := by omega
      have dlt : decide ((k : Int) < (k : Int)) = false := by simp
      go_wp2
      go_ret
      exact ⟨rfl, hb⟩

theorem ref_nonce (seq : Int) (w : World) (h0 : 0 ≤ seq) (h1 : seq ≤ 9223372036854775807) : Calls Tryz.prog 41 #[.int .i64 seq] w fun e w' => e = .returned (.string (nonceR seq)) ∧ Below w.heap.size w w' := by
  rw [nonceR_yes h0]
  have P1 : Hid _ := fun w => ref_zeros 4 w (by decide)
  have P2 : Hid _ := fun w => ref_putBig seq 8 w h0 (by omega)
  have d1 : IntKind.u64.wrap seq = seq := by rw [IntKind.wrap_u64]; omega
  have hz : (str (List.replicate 4 0)).size = 4 := by rw [str_size]; rfl
  have hp := putBigS_size seq 8 (by decide)
  have hln : ¬ (9223372036854775807 < (str (List.replicate 4 0)).size + (putBigS seq 8).size) := by rw [hz, hp]; decide
  clear hz hp
  generalize str (List.replicate 4 0) = Z at *
  generalize putBigS seq 8 = N at *
  go_enter Tryz.func41, Tryz.ntmps41
  go_wp2_with fail
  refine (P1.out _).mono ?_
  rintro e w1 ⟨rfl, b1⟩
  go_wp2_with fail
  refine (P2.out _).mono ?_
  rintro e w2 ⟨rfl, b2⟩
  go_wp2
  go_ret
  exact ⟨rfl, bel_chain b1 b2⟩

end Go.Proofs.YtanghehmfagmfaaGreatDoor
