/-
  The contract of the reference's Unhex.
-/
import Derived.Test.YtgbdcgebbfcpoaaOct8
import Derived.Test.YtgbdcgebbfcpoaaOct9
namespace Go.Proofs.Ytgbdcgebbfcpoaa
open Go.RowKit
set_option linter.unusedVariables false

/-- The last of the first q digits that is the byte c; -1 if none is. -/
def dTo (c : Int) (q : Nat) : Int := if isDig c = true ∧ unV c < (q : Int) then unV c else -1
theorem dTo_zero (c : Int) : dTo c 0 = -1 := by
  unfold dTo
  have := unV_bd c
  rw [if_neg (by omega)]
theorem dig_iff (c : Int) (q : Nat) (hq : q < 16) : ((digB q).toNat : Int) = c ↔ isDig c = true ∧ unV c = (q : Int) := by
  rw [digB_val q hq]
  unfold digV isDig unV
  rw [decide_eq_true_eq]
  constructor
  · intro h
    subst h
    split <;> refine ⟨by omega, ?_⟩ <;> split <;> try omega
    all_goals (split <;> omega)
  · rintro ⟨h1, h2⟩
    split at h2
    · split <;> omega
    · split at h2
      · split <;> omega
      · omega
theorem dTo_hit (c : Int) (q : Nat) (hq : q < 16) (h : ((digB q).toNat : Int) = c) : dTo c (q + 1) = (q : Int) := by
  have := (dig_iff c q hq).1 h
  unfold dTo
  rw [if_pos ⟨this.1, by omega⟩, this.2]
theorem dTo_miss (c : Int) (q : Nat) (hq : q < 16) (h : ¬ ((digB q).toNat : Int) = c) : dTo c (q + 1) = dTo c q := by
  have hn := fun x => h ((dig_iff c q hq).2 x)
  unfold dTo
  by_cases hd : isDig c = true
  · have : unV c ≠ (q : Int) := fun e => hn ⟨hd, e⟩
    by_cases hl : unV c < (q : Int)
    · rw [if_pos ⟨hd, by omega⟩, if_pos ⟨hd, hl⟩]
    · rw [if_neg (by omega), if_neg (by omega)]
  · rw [if_neg (fun x => hd x.1), if_neg (fun x => hd x.1)]
theorem dTo_yes (c : Int) (h : isDig c = true) : dTo c 16 = unV c := by
  unfold dTo
  have := unV_bd c
  rw [if_pos ⟨h, by omega⟩]
theorem dTo_no (c : Int) (h : isDig c = false) : dTo c 16 = -1 := by
  unfold dTo
  rw [h, if_neg (by simp)]

/-- What the two digits of byte m come to, so far. -/
def vTo (s : ByteArray) (m t : Nat) : Int := if t = 0 then 0 else if t = 1 then unV (digAt s (2 * m)) else unV (digAt s (2 * m)) * 16 + unV (digAt s (2 * m + 1))
theorem vTo_step (s : ByteArray) (m t : Nat) (h : t < 2) : vTo s m (t + 1) = vTo s m t * 16 + unV (digAt s (2 * m + t)) := by
  rcases (show t = 0 ∨ t = 1 from by omega) with h | h
  · subst h; simp [vTo]
  · subst h; simp [vTo]
theorem vTo_bd (s : ByteArray) (m t : Nat) : 0 ≤ vTo s m t ∧ vTo s m t ≤ 255 := by
  have h1 := unV_bd (digAt s (2 * m))
  have h2 := unV_bd (digAt s (2 * m + 1))
  unfold vTo
  split
  · omega
  · split <;> omega
theorem vTo_two (s : ByteArray) (m : Nat) : vTo s m 2 = ((pairAt s m).toNat : Int) := by rw [pairAt_val]; rfl

theorem ref_unhex_odd (s : ByteArray) (w : World) (hs : s.size ≤ 140737488355328) (h : s.size % 2 = 1) :
    Calls Try.prog 11 #[.string s] w fun e w' => e = .returned (.tuple #[.string (unhexS s), .bool (unhexOk s)]) ∧ Below w.heap.size w w' := by
  have ho := unhex_odd s h
  have HO : Hid (unhexOk s = false) := ho
  have HS : Hid (unhexS s = ⟨#[]⟩) := unhexS_no s ho
  clear ho
  have hm : ((s.size : Int) % 2 == 0) = false := by rw [beq_eq_false_iff_ne]; omega
  go_enter Try.func11, Try.ntmps11
  go_wp2
  all_goals
    go_ret2
    exact ⟨ret_sb HS.out.symm HO.out.symm, Below.refl _ _⟩

set_option maxHeartbeats 2000000 in
set_option maxRecDepth 100000 in
theorem ref_unhex_even (s : ByteArray) (n : Nat) (w : World) (hs : s.size ≤ 140737488355328) (h : 2 * n = s.size) :
    Calls Try.prog 11 #[.string s] w fun e w' => e = .returned (.tuple #[.string (unhexS s), .bool (unhexOk s)]) ∧ Below w.heap.size w w' := by
  obtain ⟨i0, hi, hz0, hz1, hz2⟩ := info_parts info8
  have hm : ((s.size : Int) % 2 != 0) = false := by rw [bne_eq_false_iff_eq]; omega
  have hn1 : 2 * n ≤ s.size := by omega
  have hn2 : s.size ≤ 2 * n := by omega
  clear h
  go_enter Try.func11, Try.ntmps11
  go_wp2
  go_loopw [4, 5] (fun v i wr => ∃ (m : Nat) (l : List UInt8), m ≤ n ∧ i = .int .i64 (2 * (m : Int)) ∧ l.length = m ∧ Hid (∀ j, j < m → l[j]? = some (pairAt s j)) ∧ Hid (∀ j, j < 2 * m → isDig (digAt s j) = true) ∧ wr.ownsRow w.heap.size 5 1 v m (cells8 l) ∧ Below w.heap.size w wr) (fun _ i _ => (2 * (n : Int) - intOf i).toNat)
  case atStart => exact ⟨0, [], Nat.zero_le _, rfl, rfl, by intro j hj; omega, by intro j hj; omega, World.ownsRow_nil _ _ _ _, Below.refl _ _⟩
  case round =>
    obtain ⟨m, l, hk, rfl, hl, hbs, hds, hown, hbel⟩ := hrel
    by_cases hlt : m < n
    · have hb17 : decide (2 * (m : Int) < (s.size : Int)) = true := decide_eq_true (by omega)
      go_wp2
      go_loopw [6, 7] (fun V j wq => ∃ t : Nat, t ≤ 2 ∧ j = .int .i64 (2 * (m : Int) + t) ∧ V = .int .i64 (vTo s m t) ∧ Hid (∀ q, q < t → isDig (digAt s (2 * m + q)) = true) ∧ wq.ownsRow w.heap.size 5 1 u4 m (cells8 l) ∧ Below w.heap.size w wq) (fun _ j _ => (2 * (m : Int) + 2 - intOf j).toNat)
      case atStart => exact ⟨0, by omega, by go_num, rfl, by intro q hq; omega, hown, hbel⟩
      case round =>
        clear hown hbel
        obtain ⟨t, ht, rfl, rfl, hdq, hown, hbel⟩ := hrel
        have hvb := vTo_bd s m t
        have hv0 := hvb.1
        have hv1 := hvb.2
        clear hvb
        by_cases htl : t < 2
        · have hj : 2 * m + t < s.size := by omega
          have hb24 : decide (2 * (m : Int) + (t : Int) < 2 * (m : Int) + 2) = true := decide_eq_true (by omega)
          obtain ⟨c, hc⟩ : ∃ c : Int, c = (s[2 * m + t].toNat : Int) := ⟨_, rfl⟩
          have HC : Hid (c = (s[2 * m + t].toNat : Int)) := hc
          have HCD : Hid (digAt s (2 * m + t) = c) := by show _ = _; rw [digAt_eq s _ hj, hc]
          clear hc
          have hu := unV_bd c
          have hu0 := hu.1
          have hu1 := hu.2
          clear hu
          have HVS : Hid (vTo s m (t + 1) = vTo s m t * 16 + unV c) := by show _ = _; rw [vTo_step s m t htl, HCD.out]
          have HBAD : Hid (isDig c = false → unhexOk s = false) := fun hd => unhex_bad s (2 * m + t) hj (by rw [← HC.out]; exact hd)
          go_wp2
          go_loopw [8, 9] (fun d i wp => ∃ q : Nat, q ≤ 16 ∧ i = .int .i64 q ∧ d = .int .i64 (dTo c q) ∧ wp.ownsRow w.heap.size 5 1 u4 m (cells8 l) ∧ Below w.heap.size w wp) (fun _ i _ => 16 - (intOf i).toNat)
          case atStart => exact ⟨0, by omega, rfl, by rw [dTo_zero], hown, hbel⟩
          case round =>
            clear hown hbel
            obtain ⟨q, hq, rfl, rfl, hown, hbel⟩ := hrel
            by_cases hql : q < 16
            · have hd := digits_at q hql
              have hq16 : (q : Int) < 16 := by omega
              have hj0 : 0 ≤ 2 * (m : Int) + (t : Int) := by omega
              have hj1 : 2 * (m : Int) + (t : Int) < (s.size : Int) := by omega
              have htn : (2 * (m : Int) + (t : Int)).toNat = 2 * m + t := by omega
              by_cases htest : ((digB q).toNat : Int) = c
              · have hbt : (((digB q).toNat : Int) == (s[2 * m + t].toNat : Int)) = true := by rw [beq_iff_eq, ← HC.out]; exact htest
                have HD := dTo_hit c q hql htest
                have HD' : Hid _ := HD
                clear HD htest
                go_wp2
                go_region
                all_goals
                  go_wp2
                  go_roundw
                  case rel => exact ⟨q + 1, by omega, by go_num, by rw [HD'.out], hown.drew, hbel.drew⟩
                  case measure => simp [intOf]; omega
              · have hbt : (((digB q).toNat : Int) == (s[2 * m + t].toNat : Int)) = false := by rw [beq_eq_false_iff_ne, ← HC.out]; exact htest
                have HD := dTo_miss c q hql htest
                have HD' : Hid _ := HD
                clear HD htest
                go_wp2
                go_region
                all_goals
                  go_wp2
                  go_roundw
                  case rel => exact ⟨q + 1, by omega, by go_num, by rw [HD'.out], hown.drew, hbel.drew⟩
                  case measure => simp [intOf]; omega
            · obtain rfl : q = 16 := by omega
              cases hdc : isDig c
              · have he := dTo_no c hdc
                go_wp2
                go_ret2
                have ho := HBAD.out hdc
                exact ⟨ret_sb (unhexS_no s ho).symm ho.symm, hbel⟩
              · have he := dTo_yes c hdc
                go_wp2
                go_roundw
                case rel =>
                  refine ⟨t + 1, by omega, by go_num, by rw [HVS.out], ?_, hown, hbel⟩
                  intro x hx
                  rcases (show x < t ∨ x = t from by omega) with h | h
                  · exact hdq.out x h
                  · rw [h, HCD.out]; exact hdc
                case measure => simp [intOf]; omega
        · obtain rfl : t = 2 := by omega
          have hb24 : decide (2 * (m : Int) + (2 : Nat) < 2 * (m : Int) + 2) = false := decide_eq_false (by omega)
          have hpv : IntKind.u8.wrap (vTo s m 2) = ((pairAt s m).toNat : Int) := by
            have := (pairAt s m).toNat_lt
            rw [vTo_two, IntKind.wrap_u8']; omega
          have hmn : m ≤ 140737488355327 := by omega
          go_wp2_with (first | (at_builtin; refine wpList_append_lies _ rfl (.tmp 44) (.tmp 47) 33 rfl w.heap.size 5 i0 (.int .u8 0) 1 1 Try.underlying33 hi hz0 hz1 hz2 rfl (by decide) u4 m (cells8 l) rfl (hown.alloc _) ⟨wr.heap.size, 0, none⟩ 1 1 (cells8 [pairAt s m]) rfl rfl (World.news_of_block (heap_alloc_new wr _)) (cells8_one _) (by decide) (by unfold maxLen; omega) (by omega) (by have := hbel.size; simp; omega) _ rfl ?_))
          intro g cap w2 hown2 hgrow2 hat hlt2
          go_wp2
          go_roundw
          case rel =>
            refine ⟨m + 1, l ++ [pairAt s m], by omega, by go_num, by simp [hl], ?_, ?_, ?_, ?_⟩
            · intro j hj
              rcases (show j < m ∨ j = m from by omega) with h | h
              · rw [List.getElem?_append_left (by omega)]; exact hbs.out j h
              · subst h; rw [List.getElem?_append_right (by omega), hl]; simp
            · intro j hj
              rcases (show j < 2 * m ∨ j = 2 * m + 0 ∨ j = 2 * m + 1 from by omega) with h | h | h
              · exact hds.out j h
              · rw [h]; exact hdq.out 0 (by omega)
              · rw [h]; exact hdq.out 1 (by omega)
            · rw [cells8_append]; exact hown2
            · have hz := hbel.size
              exact (hbel.alloc (by omega) _).grown hgrow2 (by simp; omega) (fun j hj => (hown.lt j hj).1)
          case measure => simp [intOf]; omega
    · obtain rfl : m = n := by omega
      have hb17 : decide (2 * (m : Int) < (s.size : Int)) = false := decide_eq_false (by omega)
      have hconv := own_string_any hown
      have ho := unhex_good s (by omega) (fun j hj => hds.out j (by omega))
      have HO : Hid (unhexOk s = true) := ho
      have HS : Hid (unhexS s = str l) := unhexS_yes s l ho (by omega) (fun j hj => hbs.out j (by omega))
      clear ho
      go_wp2
      go_ret2
      exact ⟨ret_sb HS.out.symm HO.out.symm, hbel⟩

theorem ref_unhex (s : ByteArray) (w : World) (hs : s.size ≤ 140737488355328) :
    Calls Try.prog 11 #[.string s] w fun e w' => e = .returned (.tuple #[.string (unhexS s), .bool (unhexOk s)]) ∧ Below w.heap.size w w' := by
  rcases (show s.size % 2 = 1 ∨ s.size % 2 = 0 from by omega) with h | h
  · exact ref_unhex_odd s w hs h
  · exact ref_unhex_even s (s.size / 2) w hs (by omega)

end Go.Proofs.Ytgbdcgebbfcpoaa
