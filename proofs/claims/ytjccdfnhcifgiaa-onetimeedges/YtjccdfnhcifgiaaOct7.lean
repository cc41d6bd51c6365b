/-
  The contracts of Hex, package octet's and the reference's.
-/
import Derived.Test.YtjccdfnhcifgiaaOct6
import Derived.Test.YtjccdfnhcifgiaaOct4
import Derived.Deep.RegionHeld3
import Derived.Deep.AppendLies
namespace Go.Proofs.Ytjccdfnhcifgiaa
open Go.RowKit
set_option linter.unusedVariables false
set_option maxRecDepth 100000

theorem and15 (b : UInt8) : bits BinOp.and IntKind.u8 (b.toNat : Int) 15 = (b.toNat : Int) % 16 := by
  have := b.toNat_lt
  rw [u8_and _ _ (by omega) (by omega) (by omega) (by omega), show (15 : Int).toNat = 15 from rfl, nat_mask4]
  omega
def digB (v : Nat) : UInt8 := UInt8.ofNat (digV v).toNat
def hexL : List UInt8 → List UInt8
  | [] => []
  | b :: l => digB (b.toNat / 16) :: digB (b.toNat % 16) :: hexL l
def hexS (s : ByteArray) : ByteArray := str (hexL s.data.toList)

theorem digV_bd (v : Int) (h0 : 0 ≤ v) (h1 : v < 16) : 48 ≤ digV v ∧ digV v ≤ 102 := by unfold digV; split <;> omega
theorem digB_val (v : Nat) (h : v < 16) : ((digB v).toNat : Int) = digV v := by
  unfold digB
  have := digV_bd v (by omega) (by omega)
  rw [UInt8.toNat_ofNat']
  omega
theorem hexL_append (a b : List UInt8) : hexL (a ++ b) = hexL a ++ hexL b := by
  induction a with
  | nil => rfl
  | cons x a ih => simp [hexL, ih]
theorem hexL_len (l : List UInt8) : (hexL l).length = 2 * l.length := by
  induction l with
  | nil => rfl
  | cons x l ih => simp [hexL, ih]; omega

theorem cells8_one (l : List UInt8) : ∀ u ∈ cells8 l, u.oneCell' = true := by
  intro u hu
  simp only [cells8, List.mem_map] at hu
  obtain ⟨b, _, rfl⟩ := hu
  rfl
theorem cells8_append (a b : List UInt8) : cells8 (a ++ b) = cells8 a ++ cells8 b := by simp [cells8]

/-- A row of bytes that the call owns, nil or not, as a string. -/
theorem own_string_any {wr : World} {base n : Nat} {v : Value} {l : List UInt8} (h : wr.ownsRow base 5 1 v n (cells8 l)) :
    (convert 30 9 v).run Try.prog wr = .ok (.string (str l)) wr := by
  rcases h.2 with ⟨rfl, rfl⟩ | ⟨g, cap, cur, rfl, _⟩
  · have hl : l = [] := by
      have := h.1
      rw [cells8_len] at this
      exact List.eq_nil_of_length_eq_zero (by omega)
    subst hl
    rw [run_convert_bytes_string wr _ _ 5 none 0 0 Try.underlying30 Try.underlying5 Try.underlying9]
    rfl
  · exact own_string h

set_option maxHeartbeats 1000000 in
theorem octet_hex (s : ByteArray) (w : World) (hs : s.size ≤ 70368744177664) :
    Calls Try.prog 17 #[.string s] w fun e w' => e = .returned (.string (hexS s)) ∧ Below w.heap.size w w' := by
  obtain ⟨i0, hi, hz0, hz1, hz2⟩ := info_parts info8
  go_enter Try.func17, Try.ntmps17
  go_wp2_with (first | (at_make; refine wpList_make_own _ rfl _ _ 30 rfl w.heap.size 5 i0 (.int .u8 0) 1 Try.underlying30 hi hz0 hz1 .i64 .i64 _ (2 * s.size) rfl rfl (by omega) (by rw [hz2]; omega) (by unfold maxLen; omega) (Nat.le_refl _) ?_))
  intro w1 hown hgrow
  have hb1 : Below w.heap.size w w1 := (Below.refl _ w).grown hgrow (Nat.le_refl _) (by intro k hk; cases hk)
  clear hgrow
  go_wp2
  go_loopw [3, 4] (fun v i wr => ∃ (k : Nat) (l : List UInt8), k ≤ s.size ∧ i = .int .i64 k ∧ Hid (l = hexL (s.data.toList.take k)) ∧ wr.ownsRow w.heap.size 5 1 v (2 * k) (cells8 l) ∧ Below w.heap.size w wr) (fun _ i _ => s.size - (intOf i).toNat)
  case atStart => exact ⟨0, [], Nat.zero_le _, rfl, rfl, hown, hb1⟩
  case round =>
    clear hown hb1
    obtain ⟨k, l, hk, rfl, HL, hown, hbel⟩ := hrel
    by_cases hlt : k < s.size
    · have hby : (s[k].toNat : Int) < 256 := by have := s[k].toNat_lt; omega
      have hlo := and15 s[k]
      have hd1 : digV ((s[k].toNat : Int) / 16) = ((digB (s[k].toNat / 16)).toNat : Int) := by rw [digB_val _ (by omega)]; rfl
      have hd2 : digV ((s[k].toNat : Int) % 16) = ((digB (s[k].toNat % 16)).toNat : Int) := by rw [digB_val _ (by omega)]; rfl
      go_wp2
      go_region_held3 (fun w' => True) (exact True.intro) (first | (go_at_call 26; refine (octet_digit _ _ ?_ ?_).mono ?_; omega; omega; rintro e w' ⟨rfl, rfl⟩) | (refine step_append_lies _ rfl (.tmp 15) (.tmp 26) 30 rfl w.heap.size 5 i0 (.int .u8 0) 1 1 Try.underlying30 hi hz0 hz1 hz2 rfl (by decide) u3 (2 * k) (cells8 l) rfl (hown.alloc _).drew ⟨wr.heap.size, 0, none⟩ 2 2 (cells8 [digB (s[k].toNat / 16), digB (s[k].toNat % 16)]) rfl rfl (World.news_of_block (heap_alloc_new wr _)) (cells8_one _) (by decide) (by unfold maxLen; omega) (by omega) (by have := hbel.size; simp; omega) _ rfl ?_; intro g cap w2 hown2 hgrow2 hat hlt2))
      all_goals
        go_wp2
        go_roundw
        case rel =>
          refine ⟨k + 1, l ++ [digB (s[k].toNat / 16), digB (s[k].toNat % 16)], by omega, by go_num, ?_, ?_, ?_⟩
          · show _ = _
            rw [take_snoc s k hlt, hexL_append, ← HL.out]; rfl
          · rw [cells8_append]; exact hown2
          · have hz := hbel.size
            exact ((hbel.alloc (by omega) _).drew).grown hgrow2 (by simp; omega) (fun j hj => (hown.lt j hj).1)
        case measure => simp [intOf]; omega
    · have hconv := own_string_any hown
      go_wp2
      go_ret
      refine ⟨ret_str ?_, hbel⟩
      unfold hexS
      rw [HL.out, List.take_of_length_le (by simp; omega)]

end Go.Proofs.Ytjccdfnhcifgiaa
