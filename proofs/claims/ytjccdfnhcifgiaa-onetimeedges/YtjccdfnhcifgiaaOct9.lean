/-
  The contract of package octet's Unhex.
-/
import Derived.Test.YtjccdfnhcifgiaaOct6
import Derived.Test.YtjccdfnhcifgiaaOct4
namespace Go.Proofs.Ytjccdfnhcifgiaa
open Go.RowKit
set_option linter.unusedVariables false
set_option maxRecDepth 100000

def digAt (s : ByteArray) (j : Nat) : Int := ((s.data.toList.getD j 0).toNat : Int)
def pairAt (s : ByteArray) (i : Nat) : UInt8 := UInt8.ofNat (unV (digAt s (2 * i)) * 16 + unV (digAt s (2 * i + 1))).toNat
def unhexOk (s : ByteArray) : Bool := decide (s.size % 2 = 0) && s.data.toList.all (fun c => isDig (c.toNat : Int))
def unhexL (s : ByteArray) : List UInt8 := if unhexOk s then (List.range (s.size / 2)).map (pairAt s) else []
def unhexS (s : ByteArray) : ByteArray := str (unhexL s)

theorem unV_bd (c : Int) : 0 ≤ unV c ∧ unV c ≤ 15 := by unfold unV; split; omega; split <;> omega
theorem digAt_eq (s : ByteArray) (j : Nat) (h : j < s.size) : digAt s j = (s[j].toNat : Int) := by unfold digAt; rw [getD_at s j h]
theorem pairAt_val (s : ByteArray) (i : Nat) : ((pairAt s i).toNat : Int) = unV (digAt s (2 * i)) * 16 + unV (digAt s (2 * i + 1)) := by
  have h1 := unV_bd (digAt s (2 * i))
  have h2 := unV_bd (digAt s (2 * i + 1))
  unfold pairAt
  rw [UInt8.toNat_ofNat']
  omega
theorem or16 (H L : Int) (h0 : 0 ≤ H) (h1 : H ≤ 15) (l0 : 0 ≤ L) (l1 : L ≤ 15) : bits BinOp.or IntKind.u8 (H * 16) L = H * 16 + L := by
  rw [u8_or _ _ (by omega) (by omega) (by omega) (by omega), nat_join 4 _ _ (by omega) (by omega)]
  omega
theorem unhex_odd (s : ByteArray) (h : s.size % 2 = 1) : unhexOk s = false := by
  unfold unhexOk; rw [show decide (s.size % 2 = 0) = false from by simp; omega]; rfl
theorem unhex_bad (s : ByteArray) (j : Nat) (h : j < s.size) (hd : isDig (s[j].toNat : Int) = false) : unhexOk s = false := by
  unfold unhexOk
  rw [Bool.and_eq_false_iff]
  right
  rw [List.all_eq_false]
  exact ⟨s[j], List.mem_of_getElem? (i := j) (by rw [List.getElem?_eq_getElem (by simpa using h)]; rfl), by simp [hd]⟩
theorem unhex_good (s : ByteArray) (h0 : s.size % 2 = 0) (h : ∀ j, j < s.size → isDig (digAt s j) = true) : unhexOk s = true := by
  unfold unhexOk
  rw [Bool.and_eq_true]
  refine ⟨by simpa using h0, ?_⟩
  rw [List.all_eq_true]
  intro c hc
  obtain ⟨j, hj, rfl⟩ := List.mem_iff_getElem.1 hc
  have hj' : j < s.size := by simpa using hj
  have := h j hj'
  rw [digAt_eq s j hj'] at this
  exact this
theorem unhexS_no (s : ByteArray) (h : unhexOk s = false) : unhexS s = ⟨#[]⟩ := by
  unfold unhexS unhexL; rw [h]; rfl
theorem unhexS_yes (s : ByteArray) (l : List UInt8) (h : unhexOk s = true) (hl : l.length = s.size / 2) (hp : ∀ j, j < s.size / 2 → l[j]? = some (pairAt s j)) : unhexS s = str l := by
  unfold unhexS unhexL; rw [h, if_pos rfl, ← list_eq_map hl hp]
theorem ret_sb {a b : ByteArray} {c d : Bool} (h : a = b) (h' : c = d) : Ending.returned (.tuple #[.string a, .bool c]) = .returned (.tuple #[.string b, .bool d]) := by rw [h, h']

theorem octet_unhex_odd (s : ByteArray) (w : World) (hs : s.size ≤ 140737488355328) (h : s.size % 2 = 1) :
    Calls Try.prog 16 #[.string s] w fun e w' => e = .returned (.tuple #[.string (unhexS s), .bool (unhexOk s)]) ∧ Below w.heap.size w w' := by
  have ho := unhex_odd s h
  have HO : Hid (unhexOk s = false) := ho
  have HS : Hid (unhexS s = ⟨#[]⟩) := unhexS_no s ho
  clear ho
  have hm : ((s.size : Int) % 2 == 0) = false := by rw [beq_eq_false_iff_ne]; omega
  go_enter Try.func16, Try.ntmps16
  go_wp2
  all_goals
    go_ret2
    exact ⟨ret_sb HS.out.symm HO.out.symm, Below.refl _ _⟩

set_option maxHeartbeats 1000000 in
set_option maxRecDepth 100000 in
theorem octet_unhex_even (s : ByteArray) (n : Nat) (w : World) (hs : s.size ≤ 140737488355328) (h : 2 * n = s.size) :
    Calls Try.prog 16 #[.string s] w fun e w' => e = .returned (.tuple #[.string (unhexS s), .bool (unhexOk s)]) ∧ Below w.heap.size w w' := by
  obtain ⟨i0, hi, hz0, hz1, hz2⟩ := info_parts info8
  have hm : ((s.size : Int) % 2 != 0) = false := by rw [bne_eq_false_iff_eq]; omega
  have hn1 : 2 * n ≤ s.size := by omega
  have hn2 : s.size ≤ 2 * n := by omega
  clear h
  go_enter Try.func16, Try.ntmps16
  go_wp2_with (first | (at_make; refine wpList_make_full _ rfl _ _ 30 rfl w.heap.size 5 i0 (.int .u8 0) 1 Try.underlying30 hi hz0 hz1 .i64 .i64 _ _ n rfl rfl (by omega) (by omega) (by rw [hz2]; omega) (by unfold maxLen; omega) (Nat.le_refl _) ?_))
  intro w1 hown hgrow
  rw [made8] at hown
  have hb1 : Below w.heap.size w w1 := (Below.refl _ w).grown hgrow (Nat.le_refl _) (by intro k hk; cases hk)
  clear hgrow
  go_wp2
  go_loopw [20] (fun i wr => ∃ (k : Nat) (l : List UInt8), k ≤ n ∧ i = .int .i64 k ∧ l.length = n ∧ (∀ j, j < k → l[j]? = some (pairAt s j)) ∧ (∀ j, j < 2 * k → isDig (digAt s j) = true) ∧ wr.ownsRow w.heap.size 5 1 (.slice (some ⟨w.heap.size, 0, none⟩) n n) n (cells8 l) ∧ Below w.heap.size w wr) (fun i _ => n - (intOf i).toNat)
  case atStart => exact ⟨0, List.replicate n 0, Nat.zero_le _, rfl, by simp, by intro j hj; omega, by intro j hj; omega, hown, hb1⟩
  case round =>
    clear hown hb1
    obtain ⟨k, l, hk, rfl, hl, hbs, hds, hown, hbel⟩ := hrel
    by_cases hlt : k < n
    · have hcell := hown.cellAt k (by omega)
      have hfz := hown.frozenAt k
      rw [cells8_at l k (by omega)] at hcell
      have h2a : 2 * k < s.size := by omega
      have h2b : 2 * k + 1 < s.size := by omega
      have hba : (s[2 * k].toNat : Int) < 256 := by have := s[2 * k].toNat_lt; omega
      have hbb : (s[2 * k + 1].toNat : Int) < 256 := by have := s[2 * k + 1].toNat_lt; omega
      have H1 := unhex_bad s (2 * k) h2a
      have H2 := unhex_bad s (2 * k + 1) h2b
      have HH1 : Hid (isDig (s[2 * k].toNat : Int) = false → unhexOk s = false) := H1
      have HH2 : Hid (isDig (s[2 * k + 1].toNat : Int) = false → unhexOk s = false) := H2
      clear H1 H2
      have hx := or16 (unV (s[2 * k].toNat : Int)) (unV (s[2 * k + 1].toNat : Int)) (unV_bd _).1 (unV_bd _).2 (unV_bd _).1 (unV_bd _).2
      have hu1 := (unV_bd (s[2 * k].toNat : Int)).2
      have hu2 := (unV_bd (s[2 * k].toNat : Int)).1
      have hv : Hid (unV (s[2 * k].toNat : Int) * 16 + unV (s[2 * k + 1].toNat : Int) = ((pairAt s k).toNat : Int)) := by
        show _ = _
        rw [pairAt_val, digAt_eq s (2 * k) h2a, digAt_eq s (2 * k + 1) h2b]
      rw [hv.out] at hx
      have HDS : Hid (∀ j, j < 2 * k → isDig (digAt s j) = true) := hds
      clear hds hv
      cases hda : isDig (s[2 * k].toNat : Int)
      · go_wp2_with (first | (go_at_call 25; refine (octet_digitValue _ _ ?_ ?_).mono ?_; omega; omega; rintro e w' ⟨rfl, rfl⟩))
        go_ret2
        have ho := HH1.out hda
        exact ⟨ret_sb (unhexS_no s ho).symm ho.symm, hbel⟩
      · cases hdb : isDig (s[2 * k + 1].toNat : Int)
        · go_wp2_with (first | (go_at_call 25; refine (octet_digitValue _ _ ?_ ?_).mono ?_; omega; omega; rintro e w' ⟨rfl, rfl⟩))
          go_ret2
          have ho := HH2.out hdb
          exact ⟨ret_sb (unhexS_no s ho).symm ho.symm, hbel⟩
        · go_wp2_with (first | (go_at_call 25; refine (octet_digitValue _ _ ?_ ?_).mono ?_; omega; omega; rintro e w' ⟨rfl, rfl⟩))
          go_roundw
          case rel =>
            have hst := own_store hown hbel (Nat.le_refl _) k (pairAt s k)
            refine ⟨k + 1, l.set k (pairAt s k), by omega, by go_num, by simpa using hl, set_fore hl hbs hlt, ?_, hst.1, hst.2⟩
            intro j hj
            rcases (show j < 2 * k ∨ j = 2 * k ∨ j = 2 * k + 1 from by omega) with h | h | h
            · exact HDS.out j h
            · rw [h, digAt_eq s _ h2a]; exact hda
            · rw [h, digAt_eq s _ h2b]; exact hdb
          case measure => simp [intOf]; omega
    · have hconv := own_string hown
      have ho := unhex_good s (by omega) (fun j hj => hds j (by omega))
      have HO : Hid (unhexOk s = true) := ho
      have HS : Hid (unhexS s = str l) := unhexS_yes s l ho (by omega) (fun j hj => hbs j (by omega))
      clear ho hds hbs
      go_wp2
      go_ret2
      exact ⟨ret_sb HS.out.symm HO.out.symm, hbel⟩

theorem octet_unhex (s : ByteArray) (w : World) (hs : s.size ≤ 140737488355328) :
    Calls Try.prog 16 #[.string s] w fun e w' => e = .returned (.tuple #[.string (unhexS s), .bool (unhexOk s)]) ∧ Below w.heap.size w w' := by
  rcases (show s.size % 2 = 1 ∨ s.size % 2 = 0 from by omega) with h | h
  · exact octet_unhex_odd s w hs h
  · exact octet_unhex_even s (s.size / 2) w hs (by omega)

end Go.Proofs.Ytjccdfnhcifgiaa
