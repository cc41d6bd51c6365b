/-
  Parts of this proof, one behind the other: Poly10, RefO.
-/
import Derived.Test.YtanghehmfagmfaaGreatDoorBun23
import Derived.Test.YtanghehmfagmfaaGreatDoorBun5

/-
  The part of a key by which is multiplied, in plain words, and the contracts of package onetime's Clamp and of the reference's.
-/
namespace Go.Proofs.YtanghehmfagmfaaGreatDoor
open Go.RowKit
set_option linter.unusedVariables false
set_option maxRecDepth 100000
set_option linter.unusedSimpArgs false

def clampAt (j : Nat) (b : UInt8) : UInt8 := if j % 4 = 3 then b &&& 15 else if j = 4 ∨ j = 8 ∨ j = 12 then b &&& 252 else b
def clampL (l : List UInt8) : List UInt8 := (List.range 16).map fun j => clampAt j (l.getD j 0)
def clampS (key : ByteArray) : ByteArray := str (clampL key.data.toList)
theorem clampL_len (l : List UInt8) : (clampL l).length = 16 := by simp [clampL]
theorem clampS_size (key : ByteArray) : (clampS key).size = 16 := by rw [clampS, str_size, clampL_len]

/-- Bytes 3, 7, 11, 15, the first m of them. -/
def cA (l : List UInt8) : Nat → List UInt8
  | 0 => l
  | m + 1 => (cA l m).set (3 + 4 * m) (l.getD (3 + 4 * m) 0 &&& 15)
/-- Bytes 4, 8, 12, the first m of them. -/
def cB (l : List UInt8) : Nat → List UInt8
  | 0 => l
  | m + 1 => (cB l m).set (4 + 4 * m) (l.getD (4 + 4 * m) 0 &&& 252)
theorem cA_len (l : List UInt8) : ∀ m, (cA l m).length = l.length
  | 0 => rfl
  | m + 1 => by rw [cA, List.length_set, cA_len l m]
theorem cB_len (l : List UInt8) : ∀ m, (cB l m).length = l.length
  | 0 => rfl
  | m + 1 => by rw [cB, List.length_set, cB_len l m]
theorem cA_at (l : List UInt8) (j : Nat) : ∀ m, 4 * m ≤ j → (cA l m).getD j 0 = l.getD j 0
  | 0, _ => rfl
  | m + 1, h => by
    rw [cA, List.getD_eq_getElem?_getD, List.getElem?_set_ne (by omega), ← List.getD_eq_getElem?_getD]
    exact cA_at l j m (by omega)
theorem cB_at (l : List UInt8) (j : Nat) : ∀ m, 4 * m < j → (cB l m).getD j 0 = l.getD j 0
  | 0, _ => rfl
  | m + 1, h => by
    rw [cB, List.getD_eq_getElem?_getD, List.getElem?_set_ne (by omega), ← List.getD_eq_getElem?_getD]
    exact cB_at l j m (by omega)
theorem list16 (l : List UInt8) (h : l.length = 16) : ∃ a0 a1 a2 a3 a4 a5 a6 a7 a8 a9 b0 b1 b2 b3 b4 b5, l = [a0, a1, a2, a3, a4, a5, a6, a7, a8, a9, b0, b1, b2, b3, b4, b5] := by
  match l, h with
  | [a0, a1, a2, a3, a4, a5, a6, a7, a8, a9, b0, b1, b2, b3, b4, b5], _ => exact ⟨_, _, _, _, _, _, _, _, _, _, _, _, _, _, _, _, rfl⟩
theorem c_all (l : List UInt8) (h : l.length = 16) : cB (cA l 4) 3 = clampL l := by
  obtain ⟨a0, a1, a2, a3, a4, a5, a6, a7, a8, a9, b0, b1, b2, b3, b4, b5, rfl⟩ := list16 l h
  rfl
theorem clampL_take (l : List UInt8) : clampL (l.take 16) = clampL l := by
  unfold clampL
  refine List.map_congr_left fun j hj => ?_
  have hj := List.mem_range.1 hj
  congr 1
  rw [List.getD_eq_getElem?_getD, List.getElem?_take, if_pos hj, ← List.getD_eq_getElem?_getD]
theorem u8_and15 (b : UInt8) : bits BinOp.and IntKind.u8 (b.toNat : Int) 15 = ((b &&& 15).toNat : Int) := by
  have := b.toNat_lt
  rw [u8_and _ _ (by omega) (by omega) (by omega) (by omega), UInt8.toNat_and]; rfl
theorem u8_and252 (b : UInt8) : bits BinOp.and IntKind.u8 (b.toNat : Int) 252 = ((b &&& 252).toNat : Int) := by
  have := b.toNat_lt
  rw [u8_and _ _ (by omega) (by omega) (by omega) (by omega), UInt8.toNat_and]; rfl
theorem getD_get (l : List UInt8) (j : Nat) (h : j < l.length) : l[j] = l.getD j 0 := by
  rw [List.getD_eq_getElem?_getD, List.getElem?_eq_getElem h]; rfl

set_option maxRecDepth 100000 in
set_option maxHeartbeats 1000000 in
theorem onetime_clamp_yes (key : ByteArray) (w : World) (hk : key.size = 32) :
    Calls Tryz.prog 174 #[.string key] w fun e w' => e = .returned (.tuple #[.string (clampS key), .bool true]) ∧ Below w.heap.size w w' := by
  have hx : key.extract 0 16 = str (key.data.toList.take 16) := by
    rw [← str_back (key.extract 0 16), ByteArray.data_extract, Array.toList_extract, List.extract_eq_take_drop]; simp
  have HR : Hid (clampS key = str (cB (cA (key.data.toList.take 16) 4) 3)) := by
    show _ = _
    rw [c_all _ (by simp; omega), clampL_take]; rfl
  have hl : (key.data.toList.take 16).length = 16 := by simp; omega
  generalize key.data.toList.take 16 = l0 at *
  have hcv := bytes_conv w (str l0)
  have hnew := bytes_new w (str l0)
  have hbel := bytes_below w (str l0)
  rw [show (str l0).data.toList = l0 from by simp [str]] at hnew
  rw [str_size, hl] at hcv
  generalize Lib.bytesWorld w 5 (str l0) = w1 at *
  generalize grownCap w 16 0 5 = cap at *
  go_enter Tryz.func174, Tryz.ntmps174
  go_wp2
  go_loopw [5] (fun i wr => ∃ m : Nat, m ≤ 4 ∧ i = .int .i64 (3 + 4 * (m : Int)) ∧ BytesZ wr w.heap.size (cA l0 m) ∧ Below w.heap.size w wr) (fun i _ => 19 - (intOf i).toNat)
  case atStart => exact ⟨0, Nat.zero_le _, rfl, hnew, hbel⟩
  case round =>
    clear hnew hbel hcv hx
    obtain ⟨m, hm, rfl, hrow, hbel⟩ := hrel
    by_cases hlt : m < 4
    · have hj : 3 + 4 * m < (cA l0 m).length := by rw [cA_len, hl]; omega
      have hcell := hrow.cell (3 + 4 * m) hj
      rw [getD_get _ _ hj, cA_at l0 _ m (by omega)] at hcell
      have hfz := hrow.frozen (3 + 4 * m) hj
      have HN := hrow.set (3 + 4 * m) hj (l0.getD (3 + 4 * m) 0 &&& 15)
      have HN2 : Hid (BytesZ (wr.setCell ⟨w.heap.size, 3 + 4 * m, none⟩ (.int .u8 ((l0.getD (3 + 4 * m) 0 &&& 15).toNat : Int))) w.heap.size (cA l0 (m + 1))) := HN
      have ha := u8_and15 (l0.getD (3 + 4 * m) 0)
      clear HN hrow hj
      have ht : (3 + 4 * (m : Int)).toNat = 3 + 4 * m := by omega
      have h16 : 3 + 4 * (m : Int) < 16 := by omega
      have h00 : 0 ≤ 3 + 4 * (m : Int) := by omega
      generalize l0.getD (3 + 4 * m) 0 &&& 15 = B at *
      generalize l0.getD (3 + 4 * m) 0 = b at *
      go_wp2
      go_roundw
      case rel => exact ⟨m + 1, by omega, by go_num, HN2.out, hbel.setCell (Nat.le_refl _) _⟩
      case measure => simp [intOf]; omega
    · obtain rfl : m = 4 := by omega
      have hl4 : (cA l0 4).length = 16 := by rw [cA_len, hl]
      generalize cA l0 4 = l1 at *
      go_wp2
      go_loopw [6] (fun i wr => ∃ m : Nat, m ≤ 3 ∧ i = .int .i64 (4 + 4 * (m : Int)) ∧ BytesZ wr w.heap.size (cB l1 m) ∧ Below w.heap.size w wr) (fun i _ => 19 - (intOf i).toNat)
      case atStart => exact ⟨0, Nat.zero_le _, rfl, hrow, hbel⟩
      case round =>
        clear hrow hbel
        obtain ⟨m, hm, rfl, hrow, hbel⟩ := hrel
        by_cases hlt : m < 3
        · have hj : 4 + 4 * m < (cB l1 m).length := by rw [cB_len, hl4]; omega
          have hcell := hrow.cell (4 + 4 * m) hj
          rw [getD_get _ _ hj, cB_at l1 _ m (by omega)] at hcell
          have hfz := hrow.frozen (4 + 4 * m) hj
          have HN := hrow.set (4 + 4 * m) hj (l1.getD (4 + 4 * m) 0 &&& 252)
          have HN2 : Hid (BytesZ (wr.setCell ⟨w.heap.size, 4 + 4 * m, none⟩ (.int .u8 ((l1.getD (4 + 4 * m) 0 &&& 252).toNat : Int))) w.heap.size (cB l1 (m + 1))) := HN
          have ha := u8_and252 (l1.getD (4 + 4 * m) 0)
          clear HN hrow hj
          have ht : (4 + 4 * (m : Int)).toNat = 4 + 4 * m := by omega
          have h16 : 4 + 4 * (m : Int) < 16 := by omega
          have h00 : 0 ≤ 4 + 4 * (m : Int) := by omega
          generalize l1.getD (4 + 4 * m) 0 &&& 252 = B at *
          generalize l1.getD (4 + 4 * m) 0 = b at *
          go_wp2
          go_roundw
          case rel => exact ⟨m + 1, by omega, by go_num, HN2.out, hbel.setCell (Nat.le_refl _) _⟩
          case measure => simp [intOf]; omega
        · obtain rfl : m = 3 := by omega
          have hconv := hrow.string 16 cap (by rw [cB_len, hl4]; exact Nat.le_refl _)
          rw [List.take_of_length_le (by rw [cB_len, hl4]; exact Nat.le_refl _)] at hconv
          go_wp2
          go_ret2
          exact ⟨by rw [HR.out]; rfl, hbel⟩

end Go.Proofs.YtanghehmfagmfaaGreatDoor

/-
  The contract of the reference's Clamp.
-/
namespace Go.Proofs.YtanghehmfagmfaaGreatDoor
open Go.RowKit
set_option linter.unusedVariables false
set_option maxRecDepth 100000
set_option linter.unusedSimpArgs false

/-- The first k bytes clamped. -/
def cR (l : List UInt8) : Nat → List UInt8
  | 0 => l
  | k + 1 => (cR l k).set k (clampAt k (l.getD k 0))
theorem cR_len (l : List UInt8) : ∀ k, (cR l k).length = l.length
  | 0 => rfl
  | k + 1 => by rw [cR, List.length_set, cR_len l k]
theorem cR_at (l : List UInt8) (j : Nat) : ∀ k, k ≤ j → (cR l k).getD j 0 = l.getD j 0
  | 0, _ => rfl
  | k + 1, h => by
    rw [cR, List.getD_eq_getElem?_getD, List.getElem?_set_ne (by omega), ← List.getD_eq_getElem?_getD]
    exact cR_at l j k (by omega)
theorem cR_all (l : List UInt8) (h : l.length = 16) : cR l 16 = clampL l := by
  obtain ⟨a0, a1, a2, a3, a4, a5, a6, a7, a8, a9, b0, b1, b2, b3, b4, b5, rfl⟩ := list16 l h
  rfl
theorem cR_same (l : List UInt8) (k : Nat) (hk : k < l.length) (h : clampAt k (l.getD k 0) = l.getD k 0) : cR l (k + 1) = cR l k := by
  rw [cR, h, ← cR_at l k k (Nat.le_refl _), ← getD_get (cR l k) k (by rw [cR_len]; exact hk), List.set_getElem_self]

set_option maxRecDepth 100000 in
set_option maxHeartbeats 2000000 in
theorem ref_clamp (key : ByteArray) (w : World) (hk : key.size = 32) :
    Calls Tryz.prog 144 #[.string key] w fun e w' => e = .returned (.string (clampS key)) ∧ Below w.heap.size w w' := by
  have hx : key.extract 0 16 = str (key.data.toList.take 16) := by
    rw [← str_back (key.extract 0 16), ByteArray.data_extract, Array.toList_extract, List.extract_eq_take_drop]; simp
  have HR : Hid (clampS key = str (cR (key.data.toList.take 16) 16)) := by
    show _ = _
    rw [cR_all _ (by simp; omega), clampL_take]; rfl
  have hl : (key.data.toList.take 16).length = 16 := by simp; omega
  generalize key.data.toList.take 16 = l0 at *
  have hcv := bytes_conv w (str l0)
  have hnew := bytes_new w (str l0)
  have hbel := bytes_below w (str l0)
  rw [show (str l0).data.toList = l0 from by simp [str]] at hnew
  rw [str_size, hl] at hcv
  generalize Lib.bytesWorld w 5 (str l0) = w1 at *
  generalize grownCap w 16 0 5 = cap at *
  go_enter Tryz.func144, Tryz.ntmps144
  go_wp2
  go_loopw [4] (fun i wr => ∃ m : Nat, m ≤ 16 ∧ i = .int .i64 (m : Int) ∧ BytesZ wr w.heap.size (cR l0 m) ∧ Below w.heap.size w wr) (fun i _ => 16 - (intOf i).toNat)
  case atStart => exact ⟨0, Nat.zero_le _, rfl, hnew, hbel⟩
  case round =>
    clear hnew hbel hcv hx
    obtain ⟨m, hm, rfl, hrow, hbel⟩ := hrel
    by_cases hlt : m < 16
    · have hj : m < (cR l0 m).length := by rw [cR_len, hl]; omega
      by_cases hA : m = 3 ∨ m = 7 ∨ m = 11 ∨ m = 15
      · have hca : clampAt m (l0.getD m 0) = l0.getD m 0 &&& 15 := by unfold clampAt; rw [if_pos (by omega)]
        have hcell := hrow.cell m hj
        rw [getD_get _ _ hj, cR_at l0 _ m (Nat.le_refl _)] at hcell
        have hfz := hrow.frozen m hj
        have HN2 : Hid (BytesZ (wr.setCell ⟨w.heap.size, m, none⟩ (.int .u8 ((l0.getD m 0 &&& 15).toNat : Int))) w.heap.size (cR l0 (m + 1))) := by
          have := hrow.set m hj (l0.getD m 0 &&& 15)
          rw [← hca] at this ⊢
          exact this
        have ha := u8_and15 (l0.getD m 0)
        clear hrow hj hca hm hlt
        generalize l0.getD m 0 &&& 15 = B at *
        generalize l0.getD m 0 = b at *
        rcases hA with rfl | rfl | rfl | rfl
        all_goals
          go_wp2
          go_roundw
          case rel => exact ⟨_, by decide, by first | rfl | go_num, HN2.out, hbel.setCell (Nat.le_refl _) _⟩
          case measure => simp [intOf]
      · by_cases hB : m = 4 ∨ m = 8 ∨ m = 12
        · have hca : clampAt m (l0.getD m 0) = l0.getD m 0 &&& 252 := by unfold clampAt; rw [if_neg (by omega), if_pos hB]
          have hcell := hrow.cell m hj
          rw [getD_get _ _ hj, cR_at l0 _ m (Nat.le_refl _)] at hcell
          have hfz := hrow.frozen m hj
          have HN2 : Hid (BytesZ (wr.setCell ⟨w.heap.size, m, none⟩ (.int .u8 ((l0.getD m 0 &&& 252).toNat : Int))) w.heap.size (cR l0 (m + 1))) := by
            have := hrow.set m hj (l0.getD m 0 &&& 252)
            rw [← hca] at this ⊢
            exact this
          have ha := u8_and252 (l0.getD m 0)
          clear hrow hj hca hm hlt hA
          generalize l0.getD m 0 &&& 252 = B at *
          generalize l0.getD m 0 = b at *
          rcases hB with rfl | rfl | rfl
          all_goals
            go_wp2
            go_roundw
            case rel => exact ⟨_, by decide, by first | rfl | go_num, HN2.out, hbel.setCell (Nat.le_refl _) _⟩
            case measure => simp [intOf]
        · have hca : clampAt m (l0.getD m 0) = l0.getD m 0 := by unfold clampAt; rw [if_neg (by omega), if_neg hB]
          have hsm := cR_same l0 m (by omega) hca
          have HN2 : Hid (BytesZ wr w.heap.size (cR l0 (m + 1))) := by rw [hsm]; exact hrow
          have n3 : ((m : Int) == 3) = false := by simp; omega
          have n7 : ((m : Int) == 7) = false := by simp; omega
          have n11 : ((m : Int) == 11) = false := by simp; omega
          have n15 : ((m : Int) == 15) = false := by simp; omega
          have n4 : ((m : Int) == 4) = false := by simp; omega
          have n8 : ((m : Int) == 8) = false := by simp; omega
          have n12 : ((m : Int) == 12) = false := by simp; omega
          clear hca hsm hrow hj hA hB
          go_wp2
          go_roundw
          case rel => exact ⟨m + 1, by omega, by go_num, HN2.out, hbel⟩
          case measure => simp [intOf]; omega
    · obtain rfl : m = 16 := by omega
      have hconv := hrow.string 16 cap (by rw [cR_len, hl]; exact Nat.le_refl _)
      rw [List.take_of_length_le (by rw [cR_len, hl]; exact Nat.le_refl _)] at hconv
      go_wp2
      go_ret
      exact ⟨ret_str HR.out.symm, hbel⟩

end Go.Proofs.YtanghehmfagmfaaGreatDoor
