/-
  The contracts of the reference's Extract, Expand and Key.
-/
import Derived.Test.YtlhlpcfjoccgcaaDer1
import Derived.Test.YtlhlpcfjoccgcaaMac2
namespace Go.Proofs.Ytlhlpcfjoccgcaa
open Go.RowKit
set_option linter.unusedVariables false
set_option maxRecDepth 100000

theorem one_string (W : World) (i : Nat) (h : i < 256) :
    (convert 37 9 (.slice (some ⟨W.heap.size, 0, none⟩) 1 1)).run Try.prog (W.alloc (.cells #[.int .u8 (i : Int)] 5)) = .ok (.string (str [UInt8.ofNat i])) (W.alloc (.cells #[.int .u8 (i : Int)] 5)) := by
  have e : (Obj.cells #[.int .u8 (i : Int)] 5 (0, 0)) = .cells (cells8 [UInt8.ofNat i]).toArray 5 := by
    simp [cells8, cell8]
    omega
  have := row_string (RowIs.new W 5 (cells8 [UInt8.ofNat i])) (n := 1) rfl
  rw [← e] at this
  exact this

theorem str_take (l : List UInt8) (n : Nat) : (str l).extract 0 n = str (l.take n) := by
  unfold str
  apply ByteArray.ext
  apply Array.toList_inj.1
  simp [ByteArray.data_extract]

set_option maxHeartbeats 1000000 in
theorem ref_expand_yes (kl il : List UInt8) (n : Nat) (w : World) (hk : kl.length ≤ 288230376151711744) (hi : il.length ≤ 70368744177664) (hn : n ≤ 8160) :
    Calls Try.prog 23 #[.string (str kl), .string (str il), .int .i64 n] w fun e w' => e = .returned (.tuple #[.string (str (expL kl il n)), .bool true]) ∧ Below w.heap.size w w' := by
  obtain ⟨i0, hi0, hz0, hz1, hz2⟩ := info_parts info8
  go_enter Try.func23, Try.ntmps23
  go_wp2
  go_loopw [8, 9, 10] (fun v t i wr => ∃ j : Nat, 32 * j < n + 32 ∧ v = .string (str (partsL kl il j)) ∧ t = .string (str (partL kl il j)) ∧ i = .int .i64 ((j : Int) + 1) ∧ Below w.heap.size w wr) (fun _ _ i _ => 256 - (intOf i).toNat)
  case atStart => exact ⟨0, by omega, rfl, rfl, rfl, Below.refl _ _⟩
  case round =>
    have hws : w.heap.size ≤ w.heap.size := Nat.le_refl _
    obtain ⟨j, hj, rfl, rfl, rfl, hbel⟩ := hrel
    have hps := partsL_len kl il j
    have ls := str_size (partsL kl il j)
    by_cases hlt : 32 * j < n
    · have hpl := partL_le kl il j
      have hpn := partL_len kl il j
      have HP : Hid (partsL kl il (j + 1) = partsL kl il j ++ partL kl il (j + 1)) := rfl
      have HM : Hid (macS (str kl) (str ((partL kl il j ++ il) ++ [UInt8.ofNat (j + 1)])) = str (partL kl il (j + 1))) := by
        rw [Hid, macS, str_list, str_list]; rfl
      have c1 := str_cat (partL kl il j) il
      have c2 := str_cat (partL kl il j ++ il) [UInt8.ofNat (j + 1)]
      have c3 := str_cat (partsL kl il j) (partL kl il (j + 1))
      have p1 : (convert 37 9 (.slice (some ⟨wr.heap.size, 0, none⟩) 1 1)).run Try.prog (wr.alloc (.cells #[.int .u8 ((j : Int) + 1)] 5)) = .ok (.string (str [UInt8.ofNat (j + 1)])) (wr.alloc (.cells #[.int .u8 ((j : Int) + 1)] 5)) := one_string wr (j + 1) (by omega)
      have l1 := str_size (partL kl il j)
      have l2 := str_size il
      have l3 := str_size (partL kl il j ++ il)
      have l4 := str_size [UInt8.ofNat (j + 1)]
      have l5 := str_size ((partL kl il j ++ il) ++ [UInt8.ofNat (j + 1)])
      have l6 := str_size (partL kl il (j + 1))
      have l7 := str_size kl
      have l8 : [UInt8.ofNat (j + 1)].length = 1 := rfl
      rw [List.length_append, List.length_append] at l5
      rw [List.length_append] at l3
      rw [l8] at l4 l5
      generalize (partL kl il j ++ il) ++ [UInt8.ofNat (j + 1)] = x2 at *
      generalize partL kl il j ++ il = x1 at *
      generalize [UInt8.ofNat (j + 1)] = y1 at *
      generalize partL kl il j = p at *
      generalize HQ : partL kl il (j + 1) = p' at *
      have HQ : Hid (partL kl il (j + 1) = p') := HQ
      generalize partsL kl il j ++ p' = ps' at *
      generalize partsL kl il j = ps at *
      go_wp2_with (first | (go_at_call 34; refine (ref_mac _ _ _ (by omega) (by omega)).mono ?_; rintro e w3 ⟨rfl, hb3⟩; rw [HM.out]))
      have hba := hbel.alloc hbel.size (.cells #[.int .u8 ((j : Int) + 1)] 5)
      go_roundw
      case rel => exact ⟨j + 1, by omega, by rw [HP.out], by rw [HQ.out], by go_num, hba.trans (hb3.mono hba.size)⟩
      case measure => simp [intOf]; omega
    · have ht := parts_take kl il n j (by omega)
      have hx := str_take (partsL kl il j) n
      rw [ht] at hx
      generalize partsL kl il j = ps at *
      go_wp2
      go_ret2
      exact ⟨rfl, hbel⟩

theorem ref_expand_no (k info : ByteArray) (n : Int) (w : World) (hn : n < 0 ∨ 8160 < n) :
    Calls Try.prog 23 #[.string k, .string info, .int .i64 n] w fun e w' => e = .returned (.tuple #[.string ⟨#[]⟩, .bool false]) ∧ Below w.heap.size w w' := by
  by_cases h : n < 0
  · have hd : decide (n < 0) = true := by simpa using h
    go_enter Try.func23, Try.ntmps23
    go_wp2
    go_ret2
    exact ⟨rfl, Below.refl _ _⟩
  · have h0 : 0 ≤ n := by omega
    have h1 : 8160 < n := by omega
    clear hn h
    go_enter Try.func23, Try.ntmps23
    go_wp2
    go_ret2
    exact ⟨rfl, Below.refl _ _⟩

theorem ref_expand (k info : ByteArray) (n : Nat) (w : World) (hk : k.size ≤ 288230376151711744) (hi : info.size ≤ 70368744177664) (hn : n ≤ 8160) :
    Calls Try.prog 23 #[.string k, .string info, .int .i64 n] w fun e w' => e = .returned (.tuple #[.string (expS k info n), .bool true]) ∧ Below w.heap.size w w' := by
  obtain ⟨k, rfl⟩ : ∃ l, k = str l := ⟨_, (str_back k).symm⟩
  obtain ⟨info, rfl⟩ : ∃ l, info = str l := ⟨_, (str_back info).symm⟩
  rw [str_size] at hk hi
  exact ref_expand_yes k info n w hk hi hn

theorem ref_extract (a b : ByteArray) (w : World) (ha : a.size ≤ 288230376151711744) (hb : b.size ≤ 140737488355328) :
    Calls Try.prog 30 #[.string a, .string b] w fun e w' => e = .returned (.string (extS a b)) ∧ Below w.heap.size w w' := by
  by_cases h : a = ⟨#[]⟩
  · subst h
    rw [extS_empty]
    have hrep : ∀ w1 : World, Calls Try.prog 24 #[.int .i64 32] w1 fun e w' => e = .returned (.string (str (List.replicate 32 0))) ∧ Below w1.heap.size w1 w' := fun w1 => ref_zeros 32 w1 (by decide)
    have hz : (str (List.replicate 32 0)).size = 32 := by rw [str_size, List.length_replicate]
    generalize str (List.replicate 32 0) = z at *
    go_enter Try.func30, Try.ntmps30
    go_wp2_with (first | (go_at_call 24; refine (hrep _).mono ?_; rintro e w1 ⟨rfl, b1⟩) | (go_at_call 34; refine (ref_mac _ _ _ (by omega) (by omega)).mono ?_; rintro e w2 ⟨rfl, b2⟩))
    go_ret
    exact ⟨rfl, bel_chain b1 b2⟩
  · rw [extS_other a b h]
    have he := str_full a h
    go_enter Try.func30, Try.ntmps30
    go_wp2_with (first | (go_at_call 34; refine (ref_mac _ _ _ (by omega) (by omega)).mono ?_; rintro e w2 ⟨rfl, b2⟩))
    go_ret
    exact ⟨rfl, b2⟩

theorem ref_key (secret salt info : ByteArray) (w : World) (h1 : secret.size ≤ 140737488355328) (h2 : salt.size ≤ 288230376151711744) (h3 : info.size ≤ 70368744177664) :
    Calls Try.prog 18 #[.string secret, .string salt, .string info] w fun e w' => e = .returned (.string (keyS secret salt info)) ∧ Below w.heap.size w w' := by
  have hx := ref_extract salt secret w h2 h1
  have hs := extS_size salt secret
  have hp := fun w => ref_expand (extS salt secret) info 32 w (by omega) h3 (by decide)
  have HK : Hid (keyS secret salt info = expS (extS salt secret) info 32) := rfl
  rw [HK.out]
  clear HK
  generalize expS (extS salt secret) info 32 = out at *
  generalize extS salt secret = k at *
  go_enter Try.func18, Try.ntmps18
  go_wp2_with (first | (go_at_call 30; refine hx.mono ?_; rintro e w1 ⟨rfl, b1⟩) | (go_at_call 23; refine (hp _).mono ?_; rintro e w2 ⟨rfl, b2⟩))
  go_ret
  exact ⟨rfl, bel_chain b1 b2⟩

end Go.Proofs.Ytlhlpcfjoccgcaa
