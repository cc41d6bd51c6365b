/-
  The contracts of package derive's Extract, Expand and Key.
-/
import Derived.Test.YtlhlpcfjoccgcaaDer0
import Derived.Test.YtlhlpcfjoccgcaaOct9
import Derived.Test.YtlhlpcfjoccgcaaStrEq
namespace Go.Proofs.Ytlhlpcfjoccgcaa
open Go.RowKit
set_option linter.unusedVariables false
set_option maxRecDepth 100000

/-- The first bytes of an owned row as a string. -/
theorem own_string_take {wr : World} {base g k n cap : Nat} {l : List UInt8} (h : wr.ownsRow base 5 1 (.slice (some ⟨g, 0, none⟩) k cap) k (cells8 l)) (hn : n ≤ k) :
    (convert 37 9 (.slice (some ⟨g, 0, none⟩) n cap)).run Try.prog wr = .ok (.string (str (l.take n))) wr := by
  have hl : l.length = k := by have := h.1; rw [cells8_len] at this; omega
  have hn' : n = (l.take n).length := by rw [List.length_take]; omega
  have := run_convert_bytes_back (P := Try.prog) wr 37 9 5 ⟨g, 0, none⟩ cap (l.take n) Try.underlying37 Try.underlying5 Try.underlying9 (by
    intro j hj
    have hj' : j < n := by omega
    have hc := h.cellAt j (by omega)
    rw [cells8_at l j (by omega)] at hc
    rw [show (⟨g, 0, none⟩ : Addr).add j = ⟨g, j, none⟩ from by simp [Addr.add]; exact fun h => h.symm, List.getElem_take]; exact hc)
  rwa [← hn'] at this
/-- What is owned and not nil lies in a row. -/
theorem owns_shape {w : World} {base e n : Nat} {v : Value} {xs : List Value} (h : w.ownsRow base e 1 v n xs) (hv : v ≠ .slice none 0 0) : ∃ g cap, v = .slice (some ⟨g, 0, none⟩) n cap ∧ n ≤ cap := by
  rcases h.2 with ⟨rfl, _⟩ | ⟨g, cap, cur, rfl, _, _, hc, _⟩
  · exact absurd rfl hv
  · exact ⟨g, cap, rfl, hc⟩

set_option maxHeartbeats 1000000 in
theorem derive_expand_yes (kl il : List UInt8) (n : Nat) (w : World) (hk : kl.length ≤ 288230376151711744) (hi : il.length ≤ 70368744177664) (hn : n ≤ 8160) :
    Calls Try.prog 26 #[.string (str kl), .string (str il), .int .i64 n] w fun e w' => e = .returned (.tuple #[.string (str (expL kl il n)), .bool true]) ∧ Below w.heap.size w w' := by
  obtain ⟨i0, hi0, hz0, hz1, hz2⟩ := info_parts info8
  have hown0 : (w.alloc (.cells (cells8 (zeros8 (n + 32))).toArray 5)).ownsRow w.heap.size 5 1 (.slice (some ⟨w.heap.size, 0, none⟩) (32 * 0) (n + 32)) (32 * 0) (cells8 (partsL kl il 0)) := (RowIs.new w 5 (cells8 (zeros8 (n + 32)))).owns (Nat.le_refl _) (by rw [cells8_len, zeros8_len]) (by omega) (by unfold maxLen; omega)
  have hb0 : Below w.heap.size w (w.alloc (.cells (cells8 (zeros8 (n + 32))).toArray 5)) := (Below.refl w.heap.size w).alloc (Nat.le_refl _) _
  go_enter Try.func26, Try.ntmps26
  go_wp2_with (first | (at_make; refine wpList_make8 rfl _ _ rfl _ _ 0 (n + 32) rfl rfl rfl (by omega) (by omega) (by omega) w.heap.size rfl ?_))
  generalize w.alloc (.cells (cells8 (zeros8 (n + 32))).toArray 5) = w1 at *
  go_loopw [8, 9, 10] (fun v t i wr => ∃ j g cap : Nat, 32 * j < n + 32 ∧ 32 * j ≤ cap ∧ v = .slice (some ⟨g, 0, none⟩) (32 * j) cap ∧ t = .string (str (partL kl il j)) ∧ i = .int .i64 ((j : Int) + 1) ∧ wr.ownsRow w.heap.size 5 1 (.slice (some ⟨g, 0, none⟩) (32 * j) cap) (32 * j) (cells8 (partsL kl il j)) ∧ Below w.heap.size w wr) (fun _ _ i _ => 256 - (intOf i).toNat)
  case atStart => exact ⟨0, w.heap.size, n + 32, by omega, by omega, rfl, rfl, rfl, hown0, hb0⟩
  case round =>
    have hws : w.heap.size ≤ w.heap.size := Nat.le_refl _
    clear hown0 hb0
    obtain ⟨j, g, cap, hj, hcap, rfl, rfl, rfl, hown, hbel⟩ := hrel
    by_cases hlt : 32 * j < n
    · have hpl := partL_le kl il j
      have hpn := partL_len kl il j
      have HP : Hid (partsL kl il (j + 1) = partsL kl il j ++ partL kl il (j + 1)) := rfl
      have HM : Hid (macS (str kl) (str ((partL kl il j ++ il) ++ [UInt8.ofNat (j + 1)])) = str (partL kl il (j + 1))) := by
        rw [Hid, macS, str_list, str_list]; rfl
      have c1 := str_cat (partL kl il j) il
      have c2 := str_cat (partL kl il j ++ il) [UInt8.ofNat (j + 1)]
      have p1 : putBigS ((j : Int) + 1) 1 = str [UInt8.ofNat (j + 1)] := putBig1 (j + 1) (by omega)
      have l1 := str_size (partL kl il j)
      have l2 := str_size il
      have l3 := str_size (partL kl il j ++ il)
      have l4 := str_size [UInt8.ofNat (j + 1)]
      have l5 := str_size ((partL kl il j ++ il) ++ [UInt8.ofNat (j + 1)])
      have l6 := str_size (partL kl il (j + 1))
      have l7 := str_size kl
      have l8 : [UInt8.ofNat (j + 1)].length = 1 := rfl
      rw [List.length_append, List.length_append] at l5
      rw [List.length_append] at l3
      rw [l8] at l4 l5
      generalize (partL kl il j ++ il) ++ [UInt8.ofNat (j + 1)] = x2 at *
      generalize partL kl il j ++ il = x1 at *
      generalize [UInt8.ofNat (j + 1)] = y1 at *
      generalize partL kl il j = p at *
      generalize HQ : partL kl il (j + 1) = p' at *
      have HQ : Hid (partL kl il (j + 1) = p') := HQ
      go_wp2_with (first | (go_at_call 28; refine (octet_putBig _ _ _ (by omega) (by omega)).mono ?_; rintro e w2 ⟨rfl, hb2⟩; rw [p1]) | (go_at_call 35; refine (mac_of _ _ _ (by omega) (by omega)).mono ?_; rintro e w3 ⟨rfl, hb3⟩; rw [HM.out]) | (at_builtin; refine Lib.wpList_append_own_string (P := Try.prog) _ rfl _ _ 37 9 rfl w.heap.size 5 i0 Try.underlying37 Try.underlying9 hi0 hz0 hz1 hz2 _ (32 * j) (cells8 (partsL kl il j)) rfl (owns_below hown (bel_chain hb2 hb3)) (str p') rfl (by rw [l6]; unfold maxLen; omega) (by rw [l6]; omega) (Nat.le_trans (Nat.le_trans hws hbel.size) (bel_chain hb2 hb3).size) ?_; intro v' w4 hown4 hgrow4 hiff))
      have hbel4 : Below w.heap.size w w4 := (hbel.trans ((bel_chain hb2 hb3).mono (Nat.le_trans hws hbel.size))).grown hgrow4 (Nat.le_trans (Nat.le_trans hws hbel.size) (bel_chain hb2 hb3).size) (owns_block hown)
      rw [l6, hpn, strCells_str, ← cells8_append, ← HP.out, show 32 * j + 32 = 32 * (j + 1) from by omega] at hown4
      obtain ⟨g', cap', rfl, hc'⟩ := owns_shape hown4 (fun e => by cases (hiff.1 e).1)
      clear hiff hgrow4
      go_wp2
      go_roundw
      case rel => exact ⟨j + 1, g', cap', by omega, hc', rfl, by rw [HQ.out], by go_num, hown4, hbel4⟩
      case measure => simp [intOf]; omega
    · have hconv := own_string_take hown (n := n) (by omega)
      rw [parts_take kl il n j (by omega)] at hconv
      have hnc : n ≤ cap := by omega
      clear hown
      go_wp2
      go_ret2
      exact ⟨rfl, hbel⟩

theorem derive_expand_no (k info : ByteArray) (n : Int) (w : World) (hn : n < 0 ∨ 8160 < n) :
    Calls Try.prog 26 #[.string k, .string info, .int .i64 n] w fun e w' => e = .returned (.tuple #[.string ⟨#[]⟩, .bool false]) ∧ Below w.heap.size w w' := by
  by_cases h : n < 0
  · have hd : decide (n < 0) = true := by simpa using h
    go_enter Try.func26, Try.ntmps26
    go_wp2
    go_ret2
    exact ⟨rfl, Below.refl _ _⟩
  · have h0 : 0 ≤ n := by omega
    have h1 : 8160 < n := by omega
    clear hn h
    go_enter Try.func26, Try.ntmps26
    go_wp2
    go_ret2
    exact ⟨rfl, Below.refl _ _⟩

theorem derive_expand (k info : ByteArray) (n : Nat) (w : World) (hk : k.size ≤ 288230376151711744) (hi : info.size ≤ 70368744177664) (hn : n ≤ 8160) :
    Calls Try.prog 26 #[.string k, .string info, .int .i64 n] w fun e w' => e = .returned (.tuple #[.string (expS k info n), .bool true]) ∧ Below w.heap.size w w' := by
  obtain ⟨k, rfl⟩ : ∃ l, k = str l := ⟨_, (str_back k).symm⟩
  obtain ⟨info, rfl⟩ : ∃ l, info = str l := ⟨_, (str_back info).symm⟩
  rw [str_size] at hk hi
  exact derive_expand_yes k info n w hk hi hn

theorem saltS_empty : str (saltL ([] : List UInt8)) = str (List.replicate 32 0) := rfl
theorem extS_empty (b : ByteArray) : extS ⟨#[]⟩ b = macS (str (List.replicate 32 0)) b := by
  unfold extS extL macS
  rw [show (⟨#[]⟩ : ByteArray).data.toList = [] from rfl, str_list]
  rfl
theorem extS_other (a b : ByteArray) (h : a ≠ ⟨#[]⟩) : extS a b = macS a b := by
  unfold extS extL macS saltL
  rw [if_neg]
  intro e
  apply h
  rw [← str_back a, e]
  rfl
theorem derive_extract (a b : ByteArray) (w : World) (ha : a.size ≤ 288230376151711744) (hb : b.size ≤ 140737488355328) :
    Calls Try.prog 44 #[.string a, .string b] w fun e w' => e = .returned (.string (extS a b)) ∧ Below w.heap.size w w' := by
  by_cases h : a = ⟨#[]⟩
  · subst h
    rw [extS_empty]
    have hrep : ∀ w1 : World, Calls Try.prog 27 #[.string ⟨#[0]⟩, .int .i64 32] w1 fun e w' => e = .returned (.string (str (List.replicate 32 0))) ∧ Below w1.heap.size w1 w' := by
      intro w1
      have := Try.strings_Repeat ⟨#[0]⟩ 32 w1 (by decide) (by decide)
      rw [repeat_zero] at this
      exact this
    have hz : (str (List.replicate 32 0)).size = 32 := by rw [str_size, List.length_replicate]
    generalize str (List.replicate 32 0) = z at *
    go_enter Try.func44, Try.ntmps44
    go_wp2_with (first | (go_at_call 27; refine (hrep _).mono ?_; rintro e w1 ⟨rfl, b1⟩) | (go_at_call 35; refine (mac_of _ _ _ (by omega) (by omega)).mono ?_; rintro e w2 ⟨rfl, b2⟩))
    go_ret
    exact ⟨rfl, bel_chain b1 b2⟩
  · rw [extS_other a b h]
    have he := str_full a h
    go_enter Try.func44, Try.ntmps44
    go_wp2_with (first | (go_at_call 35; refine (mac_of _ _ _ (by omega) (by omega)).mono ?_; rintro e w2 ⟨rfl, b2⟩))
    go_ret
    exact ⟨rfl, b2⟩

theorem derive_key (secret salt info : ByteArray) (w : World) (h1 : secret.size ≤ 140737488355328) (h2 : salt.size ≤ 288230376151711744) (h3 : info.size ≤ 70368744177664) :
    Calls Try.prog 29 #[.string secret, .string salt, .string info] w fun e w' => e = .returned (.string (keyS secret salt info)) ∧ Below w.heap.size w w' := by
  have hx := derive_extract salt secret w h2 h1
  have hs := extS_size salt secret
  have hp := fun w => derive_expand (extS salt secret) info 32 w (by omega) h3 (by decide)
  have HK : Hid (keyS secret salt info = expS (extS salt secret) info 32) := rfl
  rw [HK.out]
  clear HK
  generalize expS (extS salt secret) info 32 = out at *
  generalize extS salt secret = k at *
  go_enter Try.func29, Try.ntmps29
  go_wp2_with (first | (go_at_call 44; refine hx.mono ?_; rintro e w1 ⟨rfl, b1⟩) | (go_at_call 26; refine (hp _).mono ?_; rintro e w2 ⟨rfl, b2⟩))
  go_ret
  exact ⟨rfl, bel_chain b1 b2⟩

end Go.Proofs.Ytlhlpcfjoccgcaa
