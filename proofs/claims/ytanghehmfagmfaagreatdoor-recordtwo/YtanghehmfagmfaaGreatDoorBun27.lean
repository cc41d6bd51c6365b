/-
  Parts of this proof, one behind the other: RefL, RefM, RefN, Pad1, Pad2, Pad5.
-/
import Derived.Test.YtanghehmfagmfaaGreatDoorBun22
import Derived.Test.YtanghehmfagmfaaGreatDoorBun26
import Derived.Test.YtanghehmfagmfaaGreatDoorBun11
import Derived.Deep.AppendLies
import Derived.Test.YtanghehmfagmfaaGreatDoorBun4
import Derived.Test.YtanghehmfagmfaaGreatDoorBun10

/-
  The contract of the reference's carry: digits below 256, the lowest first, at least eighteen of them.
-/
namespace Go.Proofs.YtanghehmfagmfaaGreatDoor
open Go.RowKit
set_option linter.unusedVariables false
set_option maxRecDepth 100000
set_option linter.unusedSimpArgs false

/-- As long as something is carried the number is not yet told whole. -/
theorem room_end (xs d : List Int) (k M : Nat) (c : Int) (hd : allD d) (h : valD d + 256 ^ k * c = valD (xs.take k)) (hx : ¬ k < xs.length) (hc : 0 < c) (hM : valD xs < 256 ^ M) : k < M := by
  rw [List.take_of_length_le (by omega)] at h
  have h0 := (valD_bd hd).1
  have hp : (0 : Int) < 256 ^ k := Int.pow_pos (by decide)
  have h1 : (256 : Int) ^ k * 1 ≤ 256 ^ k * c := Int.mul_le_mul_of_nonneg_left (by omega) (Int.le_of_lt hp)
  by_cases hk : k < M
  · exact hk
  · have h2 := pow256_le M k (by omega)
    omega
/-- The digits so far and what is carried are the number so far. -/
theorem digit_next (xs d : List Int) (k : Nat) (c : Int) (hk : d.length = k) (h : valD d + 256 ^ k * c = valD (xs.take k)) (hx : k < xs.length) :
    valD (d ++ [(c + xs.getD k 0) % 256]) + 256 ^ (k + 1) * ((c + xs.getD k 0) / 256) = valD (xs.take (k + 1)) := by
  have := carry_step d (c + xs.getD k 0)
  rw [hk] at this
  rw [this, valD_take xs k hx, ← h, Int.mul_add, Int.add_assoc]
theorem digit_last (xs d : List Int) (k : Nat) (c : Int) (hk : d.length = k) (h : valD d + 256 ^ k * c = valD (xs.take k)) (hx : ¬ k < xs.length) :
    valD (d ++ [c % 256]) + 256 ^ (k + 1) * (c / 256) = valD (xs.take (k + 1)) := by
  have := carry_step d c
  rw [hk] at this
  rw [this, h, List.take_of_length_le (by omega), List.take_of_length_le (by omega)]
theorem allD_snoc {d : List Int} (h : allD d) (c : Int) : allD (d ++ [c % 256]) := allD_append h (allD_one ⟨Int.emod_nonneg _ (by decide), Int.emod_lt_of_pos _ (by decide)⟩)

set_option maxRecDepth 100000 in
set_option maxHeartbeats 2000000 in
theorem ref_carry (xs : List Int) (ao : Option Addr) (g n cap : Nat) (w : World) (hn : xs.length = n) (hao : n = 0 ∨ ao = some ⟨g, 0, none⟩) (hg : g < w.heap.size ∨ n = 0) (hcell : ∀ j, j < n → w.cell? ⟨g, j, none⟩ = some (.int .i64 (xs.getD j 0))) (hx : ∀ j, 0 ≤ xs.getD j 0 ∧ xs.getD j 0 < 1099511627776) (hn2 : n ≤ 1000) (M : Nat) (hM : valD xs < 256 ^ M) (hM2 : M ≤ 1000) :
    Calls Tryz.prog 145 #[.slice ao n cap] w fun e w' => (∃ (d : List Int) (v : Value), allD d ∧ valD d = valD xs ∧ 18 ≤ d.length ∧ d.length ≤ max 18 (max n M) ∧ OwnI w' w.heap.size v d ∧ e = .returned v) ∧ Below w.heap.size w w' := by
  obtain ⟨i0, hi, hz0, hz1, hz2⟩ := info_parts infoI
  have hnil : OwnI w w.heap.size (.slice none 0 0) [] := World.ownsRow_nil w _ _ _
  go_enter Tryz.func145, Tryz.ntmps145
  go_wp2_with fail
  go_loopw [3, 4, 5] (fun v c i wr => ∃ (k : Nat) (d : List Int) (C : Int), i = .int .i64 k ∧ c = .int .i64 C ∧ d.length = k ∧ 0 ≤ C ∧ C ≤ 1099511627776 ∧ k ≤ max n M ∧ allD d ∧ valD d + 256 ^ k * C = valD (xs.take k) ∧ OwnI wr w.heap.size v d ∧ Below w.heap.size w wr) (fun _ c i _ => (n - (intOf i).toNat) * 2199023255552 + (intOf c).toNat)
  case atStart => exact ⟨0, [], 0, rfl, rfl, rfl, Int.le_refl 0, by decide, by omega, allD_nil, by simp [valD], hnil, Below.refl _ _⟩
  case round =>
    clear hnil
    obtain ⟨k, d, C, rfl, rfl, hd, hC0, hC1, hkn, hall, hval, hown, hbel⟩ := hrel
    by_cases hlt : k < n
    · obtain rfl : ao = some ⟨g, 0, none⟩ := by rcases hao with h | h; omega; exact h
      have hcl : wr.cell? ⟨g, k, none⟩ = some (.int .i64 (xs.getD k 0)) := (hbel.cell (p := ⟨g, k, none⟩) (by show g < w.heap.size; omega)).trans (hcell k hlt)
      have hx0 := (hx k).1
      have hx1 := (hx k).2
      have hown' : wr.ownsRow w.heap.size 3 1 u3 k (cellsI d) := by have := hown; unfold OwnI at this; rwa [hd] at this
      have HV : Hid (valD (d ++ [(C + xs.getD k 0) % 256]) + 256 ^ (k + 1) * ((C + xs.getD k 0) / 256) = valD (xs.take (k + 1))) := digit_next xs d k C hd hval (by omega)
      have HA : Hid (allD (d ++ [(C + xs.getD k 0) % 256])) := allD_snoc hall _
      clear hval hall hcell hx
      generalize xs.getD k 0 = X at *
      have hrem : (C + X).tmod 256 = (C + X) % 256 := Int.tmod_eq_emod_of_nonneg (by omega)
      have hquo : (C + X).tdiv 256 = (C + X) / 256 := Int.tdiv_eq_ediv_of_nonneg (by omega)
      have hdk : decide ((k : Int) < (n : Int)) = true := by simp; omega
      go_wp2_with (first | (at_builtin; refine wpList_append_lies _ rfl (.tmp 26) (.tmp 29) 30 rfl w.heap.size 3 i0 (.int .i64 0) 1 8 Tryz.underlying30 hi hz0 hz1 hz2 rfl (by decide) u3 k (cellsI d) rfl (hown'.alloc _) ⟨wr.heap.size, 0, none⟩ 1 1 (cellsI [(C + X) % 256]) rfl rfl (World.news_of_block (heap_alloc_new wr _)) (cellsI_one _) (by decide) (by unfold maxLen; omega) (by omega) (by have := hbel.size; simp; omega) _ rfl ?_))
      intro g2 cap2 w2 hown2 hgrow2 hat hlt2
      go_wp2
      go_roundw
      case rel =>
        refine ⟨k + 1, d ++ [(C + X) % 256], (C + X) / 256, by go_num, rfl, by simp [hd], by omega, by omega, by omega, HA.out, HV.out, ?_, ?_⟩
        · unfold OwnI
          rw [cellsI_append, show (d ++ [(C + X) % 256]).length = k + 1 from by simp [hd]]
          exact hown2
        · have hz := hbel.size
          exact (hbel.alloc (by omega) _).grown hgrow2 (by simp; omega) (fun j hj => (hown'.lt j hj).1)
      case measure => simp [intOf]; omega
    · by_cases hpos : 0 < C
      · have hk5 := room_end xs d k M C hall hval (by omega) hpos hM
        have hown' : wr.ownsRow w.heap.size 3 1 u3 k (cellsI d) := by have := hown; unfold OwnI at this; rwa [hd] at this
        have HV : Hid (valD (d ++ [C % 256]) + 256 ^ (k + 1) * (C / 256) = valD (xs.take (k + 1))) := digit_last xs d k C hd hval (by omega)
        have HA : Hid (allD (d ++ [C % 256])) := allD_snoc hall _
        clear hval hall hcell hx
        have hrem : C.tmod 256 = C % 256 := Int.tmod_eq_emod_of_nonneg (by omega)
        have hquo : C.tdiv 256 = C / 256 := Int.tdiv_eq_ediv_of_nonneg (by omega)
        have hdk : decide ((k : Int) < (n : Int)) = false := by simp; omega
        go_wp2_with (first | (at_builtin; refine wpList_append_lies _ rfl (.tmp 26) (.tmp 29) 30 rfl w.heap.size 3 i0 (.int .i64 0) 1 8 Tryz.underlying30 hi hz0 hz1 hz2 rfl (by decide) u3 k (cellsI d) rfl (hown'.alloc _) ⟨wr.heap.size, 0, none⟩ 1 1 (cellsI [C % 256]) rfl rfl (World.news_of_block (heap_alloc_new wr _)) (cellsI_one _) (by decide) (by unfold maxLen; omega) (by omega) (by have := hbel.size; simp; omega) _ rfl ?_))
        intro g2 cap2 w2 hown2 hgrow2 hat hlt2
        go_wp2
        go_roundw
        case rel =>
          refine ⟨k + 1, d ++ [C % 256], C / 256, by go_num, rfl, by simp [hd], by omega, by omega, by omega, HA.out, HV.out, ?_, ?_⟩
          · unfold OwnI
            rw [cellsI_append, show (d ++ [C % 256]).length = k + 1 from by simp [hd]]
            exact hown2
          · have hz := hbel.size
            exact (hbel.alloc (by omega) _).grown hgrow2 (by simp; omega) (fun j hj => (hown'.lt j hj).1)
        case measure => simp [intOf]; omega
      · obtain rfl : C = 0 := by omega
        have hdk : decide ((k : Int) < (n : Int)) = false := by simp; omega
        rw [Int.mul_zero, Int.add_zero, List.take_of_length_le (by omega)] at hval
        clear hcell hx
        obtain ⟨ao3, cap3, rfl⟩ := hown.shape
        go_wp2_with fail
        go_loopw [3] (fun v wr => ∃ (d : List Int) (ao3 : Option Addr) (cap3 : Nat), v = .slice ao3 d.length cap3 ∧ allD d ∧ valD d = valD xs ∧ d.length ≤ max 18 (max n M) ∧ OwnI wr w.heap.size (.slice ao3 d.length cap3) d ∧ Below w.heap.size w wr) (fun v _ => match v with | .slice _ m _ => 18 - m | _ => 0)
        case atStart => exact ⟨d, ao3, cap3, by rw [hd], hall, hval, by omega, hown, hbel⟩
        case round =>
          clear hown hbel hall hval hkn hd
          obtain ⟨d, ao3, cap3, rfl, hall, hval, hkn, hown, hbel⟩ := hrel
          have hown' : wr.ownsRow w.heap.size 3 1 (.slice ao3 d.length cap3) d.length (cellsI d) := hown
          by_cases h18 : d.length < 18
          · have HA : Hid (allD (d ++ [0])) := allD_append hall (allD_one ⟨by decide, by decide⟩)
            have HV : Hid (valD (d ++ [0]) = valD xs) := by show _ = _; rw [← hval]; exact valD_pad d 1
            clear hall hval
            generalize hm : d.length = m at *
            have h18' : (m : Int) < 18 := by omega
            go_wp2_with (first | (at_builtin; refine wpList_append_lies _ rfl (.tmp 36) (.tmp 37) 30 rfl w.heap.size 3 i0 (.int .i64 0) 1 8 Tryz.underlying30 hi hz0 hz1 hz2 rfl (by decide) (.slice ao3 m cap3) m (cellsI d) rfl (hown'.alloc _) ⟨wr.heap.size, 0, none⟩ 1 1 (cellsI [0]) rfl rfl (World.news_of_block (heap_alloc_new wr _)) (cellsI_one _) (by decide) (by unfold maxLen; omega) (by omega) (by have := hbel.size; simp; omega) _ rfl ?_))
            intro g2 cap2 w2 hown2 hgrow2 hat hlt2
            go_wp2
            go_roundw
            case rel =>
              have hl : (d ++ [0]).length = m + 1 := by simp [hm]
              refine ⟨d ++ [0], some ⟨g2, 0, none⟩, cap2, by rw [hl], HA.out, HV.out, by omega, ?_, ?_⟩
              · unfold OwnI
                rw [cellsI_append, hl]
                exact hown2
              · have hz := hbel.size
                exact (hbel.alloc (by omega) _).grown hgrow2 (by simp; omega) (fun j hj => (hown'.lt j hj).1)
            case measure => simp; omega
          · have h18' : ¬ ((d.length : Int) < 18) := by omega
            go_wp2
            go_ret
            exact ⟨⟨d, hall, hval, by omega, hkn, _, hown, rfl⟩, hbel⟩

end Go.Proofs.YtanghehmfagmfaaGreatDoor

/-
  What lies above the 130th bit comes back five times: plain facts, and the contract of the reference's fold.
-/
namespace Go.Proofs.YtanghehmfagmfaaGreatDoor
open Go.RowKit
set_option linter.unusedVariables false
set_option maxRecDepth 100000
set_option linter.unusedSimpArgs false

theorem valD_set (v : Int) : ∀ (l : List Int) (j : Nat), j < l.length → valD (l.set j v) = valD l + 256 ^ j * (v - l.getD j 0)
  | [], j, h => by simp at h
  | d :: l, 0, h => by simp [valD]; omega
  | d :: l, j + 1, h => by
    have := valD_set v l j (by simpa using h)
    simp only [List.set_cons_succ, valD, this, List.getD_cons_succ, Int.pow_succ]
    rw [Int.mul_add, Int.add_assoc, ← Int.mul_assoc, Int.mul_comm 256 (256 ^ j)]
theorem partsD_at : ∀ (l : List Int) (j : Nat), j < l.length → (partsD l).getD j 0 = l.getD j 0 / 4 + l.getD (j + 1) 0 % 4 * 64
  | [], j, h => by simp at h
  | d :: l, 0, h => by
    cases l with
    | nil => simp [partsD]
    | cons e m => simp [partsD]
  | d :: l, j + 1, h => by
    have := partsD_at l j (by simpa using h)
    simpa [partsD] using this
def lo130 (x : List Int) : Int := valD (x.take 16) + 256 ^ 16 * (x.getD 16 0 % 4)
def hi130 (x : List Int) : Int := valD (partsD (x.drop 16))
/-- The number so far, k digits in. -/
def foldV (x : List Int) (k : Nat) : Int := valD (x.take (min k 16)) + (if 16 < k then 256 ^ 16 * (x.getD 16 0 % 4) else 0) + 5 * valD ((partsD (x.drop 16)).take (k - 16))
def foldP (x : List Int) (k : Nat) : Int := x.getD k 0 / 4 + x.getD (k + 1) 0 % 4 * 64
def foldH (x : List Int) (k : Nat) : Bool := decide (0 < valD ((partsD (x.drop 16)).take (k - 16)))
theorem foldV_zero (x : List Int) : foldV x 0 = 0 := by simp [foldV, valD]
theorem foldH_zero (x : List Int) (k : Nat) (h : k ≤ 16) : foldH x k = false := by
  unfold foldH
  rw [Nat.sub_eq_zero_of_le h]
  simp [valD]
theorem foldV_low (x : List Int) (k : Nat) (hk : k < 16) (hl : k < x.length) : foldV x (k + 1) = foldV x k + 256 ^ k * x.getD k 0 := by
  unfold foldV
  rw [Nat.min_eq_left (by omega), Nat.min_eq_left (by omega), if_neg (by omega), if_neg (by omega), Nat.sub_eq_zero_of_le (by omega), Nat.sub_eq_zero_of_le (by omega), valD_take x k hl]
  omega
theorem parts_take6 (x : List Int) (k : Nat) (hk : 16 ≤ k) (hl : k < x.length) : valD ((partsD (x.drop 16)).take (k + 1 - 16)) = valD ((partsD (x.drop 16)).take (k - 16)) + 256 ^ (k - 16) * foldP x k := by
  rw [show k + 1 - 16 = (k - 16) + 1 from by omega, valD_take _ _ (by rw [partsD_len, List.length_drop]; omega), partsD_at _ _ (by rw [List.length_drop]; omega)]
  have e : ∀ i, (x.drop 16).getD i 0 = x.getD (16 + i) 0 := fun i => by rw [List.getD_eq_getElem?_getD, List.getElem?_drop, List.getD_eq_getElem?_getD]
  rw [e, e, show 16 + (k - 16) = k from by omega, show 16 + (k - 16 + 1) = k + 1 from by omega]
  rfl
theorem foldV_high (x : List Int) (k : Nat) (hk : 16 ≤ k) (hl : k < x.length) : foldV x (k + 1) = foldV x k + (if k = 16 then 256 ^ 16 * (x.getD 16 0 % 4) else 0) + 256 ^ (k - 16) * (5 * foldP x k) := by
  unfold foldV
  rw [Nat.min_eq_right (by omega), Nat.min_eq_right (by omega), parts_take6 x k hk hl, if_pos (by omega), Int.mul_add]
  have e : (5 : Int) * (256 ^ (k - 16) * foldP x k) = 256 ^ (k - 16) * (5 * foldP x k) := by ac_rfl
  rw [e]
  by_cases h : k = 16
  · rw [if_neg (by omega), if_pos h]; omega
  · rw [if_pos (by omega), if_neg h]; omega
theorem foldP_bd {x : List Int} (h : ∀ j, 0 ≤ x.getD j 0 ∧ x.getD j 0 < 256) (k : Nat) : 0 ≤ foldP x k ∧ foldP x k < 256 := by
  have h1 := h k
  have h2 := h (k + 1)
  unfold foldP
  omega
theorem allD_getD {x : List Int} (h : allD x) (j : Nat) : 0 ≤ x.getD j 0 ∧ x.getD j 0 < 256 := by
  by_cases hj : j < x.length
  · rw [List.getD_eq_getElem?_getD, List.getElem?_eq_getElem hj]
    exact h _ (List.getElem_mem hj)
  · rw [List.getD_eq_getElem?_getD, List.getElem?_eq_none (by omega)]
    exact ⟨Int.le_refl 0, show (0 : Int) < 256 by decide⟩
theorem parts_nonneg {x : List Int} (h : allD x) (k : Nat) : 0 ≤ valD ((partsD (x.drop 16)).take (k - 16)) :=
  valD_nonneg fun d hd => (partsD_nonneg (fun e he => h e (List.mem_of_mem_drop he)) d (List.mem_of_mem_take hd)).1
theorem foldH_next {x : List Int} (h : allD x) (k : Nat) (hk : 16 ≤ k) (hl : k < x.length) : foldH x (k + 1) = (foldH x k || decide (0 < foldP x k)) := by
  unfold foldH
  rw [parts_take6 x k hk hl]
  have h0 := parts_nonneg h k
  have hp := (foldP_bd (allD_getD h) k).1
  have hq : (0 : Int) < 256 ^ (k - 16) := Int.pow_pos (by decide)
  generalize valD ((partsD (x.drop 16)).take (k - 16)) = A at *
  generalize foldP x k = p at *
  by_cases hp2 : 0 < p
  · have h1 : (256 : Int) ^ (k - 16) * 1 ≤ 256 ^ (k - 16) * p := Int.mul_le_mul_of_nonneg_left (by omega) (Int.le_of_lt hq)
    rw [decide_eq_true hp2, Bool.or_true, decide_eq_true (by omega)]
  · have : p = 0 := by omega
    subst this
    rw [Int.mul_zero, Int.add_zero]
    simp
theorem foldV_end (x : List Int) (hl : 17 ≤ x.length) : foldV x x.length = lo130 x + 5 * hi130 x := by
  unfold foldV lo130 hi130
  rw [Nat.min_eq_right (by omega), if_pos (by omega), List.take_of_length_le (l := partsD (x.drop 16)) (by rw [partsD_len, List.length_drop]; omega)]
theorem foldH_end (x : List Int) : foldH x x.length = decide (0 < hi130 x) := by
  unfold foldH hi130
  rw [List.take_of_length_le (by rw [partsD_len, List.length_drop]; omega)]
theorem split_of {x : List Int} (h : allD x) (hl : 17 ≤ x.length) : valD x = lo130 x + 1361129467683753853853498429727072845824 * hi130 x ∧ (0 ≤ lo130 x ∧ lo130 x < 1361129467683753853853498429727072845824) ∧ 0 ≤ hi130 x :=
  ⟨split130 h hl, low130 h hl, valD_nonneg fun d hd => (partsD_nonneg (fun e he => h e (List.mem_of_mem_drop he)) d hd).1⟩

/-- The number of a row of numbers, as it lies in memory. -/
def rowV (w : World) (v : Value) : Nat :=
  match v with
  | .slice (some a) n _ => (valD ((List.range n).map fun j => match w.cell? ⟨a.block, j, none⟩ with | some (.int _ x) => x | _ => 0)).toNat
  | _ => 0
theorem rowV_is {w : World} {g n cap : Nat} {xs : List Int} (hn : xs.length = n) (h : ∀ j, j < n → w.cell? ⟨g, j, none⟩ = some (.int .i64 (xs.getD j 0))) : rowV w (.slice (some ⟨g, 0, none⟩) n cap) = (valD xs).toNat := by
  unfold rowV
  simp only
  congr 2
  apply List.ext_getElem?
  intro j
  by_cases hj : j < n
  · simp only [List.getElem?_map, List.getElem?_range hj, Option.map_some, h j hj]
    rw [List.getElem?_eq_getElem (by omega), List.getD_eq_getElem?_getD, List.getElem?_eq_getElem (by omega)]
    rfl
  · rw [List.getElem?_eq_none (by simp; omega), List.getElem?_eq_none (by omega)]

/-- The first eighteen of a row's numbers. -/
theorem OwnI.cut {w : World} {base g n cap : Nat} {l : List Int} (h : OwnI w base (.slice (some ⟨g, 0, none⟩) n cap) l) (m : Nat) (hn : n = l.length) (hm : m ≤ n) : OwnI w base (.slice (some ⟨g, 0, none⟩) m cap) (l.take m) := by
  subst hn
  rcases h.2 with ⟨hv, _⟩ | ⟨g', cap', cur, hv, hb, hh, hnc, hcm, hcs, ht⟩
  · cases hv
  · simp only [Value.slice.injEq, Option.some.injEq, Addr.mk.injEq, and_true, true_and] at hv
    obtain ⟨rfl, rfl⟩ := hv
    have hl : (l.take m).length = m := by rw [List.length_take]; omega
    refine ⟨by rw [cellsI_len, hl]; omega, Or.inr ⟨g, cap, cur, by rw [hl], hb, hh, by rw [hl]; omega, hcm, hcs, ?_⟩⟩
    rw [hl, cellsI, List.map_take]
    have : cur.toList.take (m * 1) = (cur.toList.take (l.length * 1)).take m := by rw [List.take_take]; congr 1; omega
    rw [this, ht]
    rfl

end Go.Proofs.YtanghehmfagmfaaGreatDoor

/-
  The contract of the reference's fold.
-/
namespace Go.Proofs.YtanghehmfagmfaaGreatDoor
open Go.RowKit
set_option linter.unusedVariables false
set_option maxRecDepth 100000
set_option linter.unusedSimpArgs false

theorem madeI (n : Nat) : (madeCells #[.int .i64 0] n).toList = cellsI (List.replicate n 0) := by
  rw [toList_madeCells_one]
  simp [cellsI]
theorem valD_add (l : List Int) (j : Nat) (y : Int) (hj : j < l.length) : valD (l.set j (l.getD j 0 + y)) = valD l + 256 ^ j * y := by
  rw [valD_set _ l j hj, Int.add_comm (l.getD j 0), Int.add_sub_cancel]
theorem getD_set (l : List Int) (j i : Nat) (v : Int) (n : Int) (hn : 0 < n) (h : ∀ i, 0 ≤ l.getD i 0 ∧ l.getD i 0 < n) (hv : 0 ≤ v ∧ v < n) : 0 ≤ (l.set j v).getD i 0 ∧ (l.set j v).getD i 0 < n := by
  rw [List.getD_eq_getElem?_getD, List.getElem?_set]
  split
  · split
    · exact hv
    · exact ⟨Int.le_refl 0, hn⟩
  · rw [← List.getD_eq_getElem?_getD]; exact h i

theorem OwnI.capLe {w : World} {base g n cap : Nat} {l : List Int} (h : OwnI w base (.slice (some ⟨g, 0, none⟩) n cap) l) (hn : n = l.length) : n ≤ cap := by
  subst hn
  rcases h.2 with ⟨hv, _⟩ | ⟨g', cap', cur, hv, hb, hh, hnc, _⟩
  · cases hv
  · simp only [Value.slice.injEq, Option.some.injEq, Addr.mk.injEq, and_true, true_and] at hv
    obtain ⟨rfl, rfl⟩ := hv
    exact hnc

set_option maxRecDepth 100000 in
set_option maxHeartbeats 4000000 in
theorem ref_fold (V : Int) (xs : List Int) (g n cap : Nat) (w : World) (hn : xs.length = n) (hg : g < w.heap.size) (hcell : ∀ j, j < n → w.cell? ⟨g, j, none⟩ = some (.int .i64 (xs.getD j 0))) (hx : ∀ j, 0 ≤ xs.getD j 0 ∧ xs.getD j 0 < 1099511627776) (hn1 : 18 ≤ n) (hn2 : n ≤ 34) (hV : valD xs = V) (hV0 : 0 ≤ V) (hV1 : V < 256 ^ 34) :
    Calls Tryz.prog 146 #[.slice (some ⟨g, 0, none⟩) n cap] w fun e w' => (∃ (d : List Int) (g' cap' : Nat), d.length = 18 ∧ allD d ∧ valD d < 1361129467683753853853498429727072845824 ∧ valD d % p130 = V % p130 ∧ OwnI w' w.heap.size (.slice (some ⟨g', 0, none⟩) 18 cap') d ∧ e = .returned (.slice (some ⟨g', 0, none⟩) 18 cap')) ∧ Below w.heap.size w w' := by
  obtain ⟨i0, hi, hz0, hz1, hz2⟩ := info_parts infoI
  go_enter Tryz.func146, Tryz.ntmps146
  go_wp2_with fail
  go_loopw [0] (fun v wr => ∃ (n g cap : Nat) (xs : List Int), v = .slice (some ⟨g, 0, none⟩) n cap ∧ xs.length = n ∧ g < wr.heap.size ∧ (∀ j, j < n → wr.cell? ⟨g, j, none⟩ = some (.int .i64 (xs.getD j 0))) ∧ (∀ j, 0 ≤ xs.getD j 0 ∧ xs.getD j 0 < 1099511627776) ∧ 18 ≤ n ∧ n ≤ 34 ∧ 0 ≤ valD xs ∧ valD xs < 256 ^ 34 ∧ valD xs % p130 = V % p130 ∧ Below w.heap.size w wr) (fun v wr => rowV wr v)
  case atStart => exact ⟨n, g, cap, xs, rfl, hn, hg, hcell, hx, hn1, hn2, by omega, by omega, by rw [hV], Below.refl _ _⟩
  case round =>
    clear hcell hx hg hV hV0 hV1 hn hn1 hn2
    obtain ⟨n, g, cap, xs, rfl, hn, hg, hcell, hx, hn1, hn2, hv0, hv1, hvr, hbel⟩ := hrel
    have hms := rowV_is (cap := cap) hn hcell
    have HMS : Hid (rowV wr (.slice (some ⟨g, 0, none⟩) n cap) = (valD xs).toNat) := hms
    clear hms
    go_wp2_with fail
    refine (ref_carry xs (some ⟨g, 0, none⟩) g n cap wr hn (Or.inr rfl) (Or.inl hg) hcell hx (by omega) 34 hv1 (by decide)).mono ?_
    rintro e w1 ⟨⟨d, v1, hall, hvd, hd18, hdl, hown1, rfl⟩, b1⟩
    obtain ⟨g1, cap1, rfl, hg1, hg1'⟩ := hown1.form (by omega)
    have hL34 : d.length ≤ 34 := by omega
    have hcd : ∀ j, j < d.length → w1.cell? ⟨g1, j, none⟩ = some (.int .i64 (d.getD j 0)) := fun j hj => hown1.cell rfl j hj
    have hbel1 : Below w.heap.size w w1 := hbel.trans (b1.mono hbel.size)
    have HSZ : Hid (w.heap.size ≤ w1.heap.size) := hbel1.size
    rw [hvd.symm] at hv0 hv1 hvr HMS
    clear hcell hx hn hn1 hn2 hg hbel b1 hown1 hvd hdl hg1
    generalize hLL : d.length = L at *
    go_wp2_with (first | (at_make; refine wpList_make_full _ rfl _ _ 30 rfl w1.heap.size 3 i0 (.int .i64 0) 1 Tryz.underlying30 hi hz0 hz1 .i64 .i64 L L L rfl rfl rfl rfl (by rw [hz2]; omega) (by unfold maxLen; omega) (Nat.le_refl _) ?_))
    intro w2 hown hgrow
    rw [madeI] at hown
    have b2 : Below w1.heap.size w1 w2 := (Below.refl _ w1).grown hgrow (Nat.le_refl _) (by intro k hk; cases hk)
    have hcd2 : ∀ j, j < L → w2.cell? ⟨g1, j, none⟩ = some (.int .i64 (d.getD j 0)) := fun j hj => (b2.cell (p := ⟨g1, j, none⟩) hg1').trans (hcd j hj)
    have hbel2 : Below w.heap.size w w2 := hbel1.trans (b2.mono HSZ.out)
    have hownI : OwnI w2 w1.heap.size (.slice (some ⟨w1.heap.size, 0, none⟩) L L) (List.replicate L 0) := by
      unfold OwnI
      rw [List.length_replicate]
      exact hown
    have hsz2 : w1.heap.size < w2.heap.size := by
      obtain ⟨_, _, hf, _, hlt⟩ := hownI.form (by rw [List.length_replicate]; omega)
      simp only [Value.slice.injEq, Option.some.injEq, Addr.mk.injEq, and_true] at hf
      omega
    clear hcd hown hgrow b2 hbel1
    have hw2s : ∀ (wq : World), w2.heap.size ≤ wq.heap.size → w1.heap.size < wq.heap.size := fun wq h => by omega
    generalize hB : w1.heap.size = B at *
    clear hB
    have hgB : g1 < B := hg1'
    go_wp2_with fail
    go_loopw [3, 5] (fun h i wq => ∃ (k : Nat) (l : List Int), k ≤ L ∧ i = .int .i64 k ∧ h = .bool (foldH d k) ∧ l.length = L ∧ (∀ j, 0 ≤ l.getD j 0 ∧ l.getD j 0 < 3000 * (k : Int) + 1) ∧ valD l = foldV d k ∧ OwnI wq B (.slice (some ⟨B, 0, none⟩) L L) l ∧ (∀ j, j < L → wq.cell? ⟨g1, j, none⟩ = some (.int .i64 (d.getD j 0))) ∧ w2.heap.size ≤ wq.heap.size ∧ Below w.heap.size w wq) (fun _ i _ => L - (intOf i).toNat)
    case atStart => exact ⟨0, List.replicate L 0, Nat.zero_le _, rfl, by rw [foldH_zero d 0 (by omega)], by simp, fun j => by simp [List.getD_eq_getElem?_getD, List.getElem?_replicate]; split <;> simp, by rw [foldV_zero, valD_zeros], hownI, hcd2, Nat.le_refl _, hbel2⟩
    case round =>
      clear hownI hcd2 hbel2
      obtain ⟨k, l, hk, rfl, rfl, hl, hlb, hlv, hown, hcd, hsz, hbel⟩ := hrel
      have hcx0 : wr.cell? ⟨g1, k, none⟩ = some (.int .i64 (d.getD k 0)) ∨ ¬ k < L := by by_cases h : k < L; exact Or.inl (hcd k h); exact Or.inr h
      have hGB : g1 ≠ B := by omega
      by_cases hlt : k < L
      · replace hcx0 := hcd k hlt
        have hX := allD_getD hall k
        have hdk : decide ((k : Int) < (L : Int)) = true := by simp; omega
        by_cases h16 : k < 16
        · have hc := hown.cell hl.symm k (by omega)
          have hz := hown.frozen hl.symm k
          have hlk := hlb k
          have HN : Hid (OwnI (wr.setCell ⟨B, k, none⟩ (.int .i64 (l.getD k 0 + d.getD k 0))) B (.slice (some ⟨B, 0, none⟩) L L) (l.set k (l.getD k 0 + d.getD k 0))) := hown.store hl.symm k _
          have HV : Hid (valD (l.set k (l.getD k 0 + d.getD k 0)) = foldV d (k + 1)) := by show _ = _; rw [valD_add l k _ (by omega), hlv, foldV_low d k h16 (by omega)]
          have HB : Hid (∀ j, 0 ≤ (l.set k (l.getD k 0 + d.getD k 0)).getD j 0 ∧ (l.set k (l.getD k 0 + d.getD k 0)).getD j 0 < 3000 * ((k + 1 : Nat) : Int) + 1) := fun j => getD_set l k j _ _ (by omega) (fun i => ⟨(hlb i).1, by have := (hlb i).2; omega⟩) (by omega)
          have HL : Hid ((l.set k (l.getD k 0 + d.getD k 0)).length = L) := by show _ = _; rw [List.length_set, hl]
          have HC : Hid (∀ j, j < L → (wr.setCell ⟨B, k, none⟩ (.int .i64 (l.getD k 0 + d.getD k 0))).cell? ⟨g1, j, none⟩ = some (.int .i64 (d.getD j 0))) := fun j hj => (World.cell?_setCell_other _ _ _ _ (fun e => by injection e with e1; omega)).trans (hcd j hj)
          have HF : Hid (foldH d k = foldH d (k + 1)) := by show _ = _; rw [foldH_zero d k (by omega), foldH_zero d (k + 1) (by omega)]
          have x0 := hX.1
          have x1 := hX.2
          have y0 := hlk.1
          have y1 : l.getD k 0 < 1099511627776 := by omega
          have hi16 : (k : Int) < 16 := by omega
          clear hX hlk hlb hlv hcd hown
          generalize l.set k (l.getD k 0 + d.getD k 0) = l' at *
          generalize l.getD k 0 = Y at *
          generalize d.getD k 0 = X at *
          generalize foldH d k = hh at *
          go_wp2
          go_region
          go_wp2
          go_roundw
          case rel => exact ⟨k + 1, l', by omega, by go_num, by rw [HF.out], HL.out, HB.out, HV.out, HN.out, HC.out, by simpa [World.setCell] using hsz, (hbel.setCell (by show w.heap.size ≤ B; exact HSZ.out) _).drew⟩
          case measure => simp [intOf]; omega
        · by_cases hk16 : k = 16
          · subst hk16
            have hc := hown.cell hl.symm 16 (by omega)
            have hz := hown.frozen hl.symm 16
            have hc0 := hown.cell hl.symm 0 (by omega)
            have hz0' := hown.frozen hl.symm 0
            have hlk := hlb 16
            have hlk0 := hlb 0
            have hX1 := allD_getD hall 17
            have hP := foldP_bd (allD_getD hall) 16
            have hcx1 := hcd 17 (by omega)
            have ep : foldP d 16 = d.getD 16 0 / 4 + d.getD 17 0 % 4 * 64 := rfl
            rw [ep] at hP
            have e0 : (l.set 16 (l.getD 16 0 + d.getD 16 0 % 4)).getD 0 0 = l.getD 0 0 := by rw [List.getD_eq_getElem?_getD, List.getElem?_set_ne (by decide), ← List.getD_eq_getElem?_getD]
            have HN : Hid (OwnI (((wr.setCell ⟨B, 16, none⟩ (.int .i64 (l.getD 16 0 + d.getD 16 0 % 4))).drew).setCell ⟨B, 0, none⟩ (.int .i64 (l.getD 0 0 + 5 * (d.getD 16 0 / 4 + d.getD 17 0 % 4 * 64)))) B (.slice (some ⟨B, 0, none⟩) L L) ((l.set 16 (l.getD 16 0 + d.getD 16 0 % 4)).set 0 (l.getD 0 0 + 5 * (d.getD 16 0 / 4 + d.getD 17 0 % 4 * 64)))) := by
              have h1 := hown.store hl.symm 16 (l.getD 16 0 + d.getD 16 0 % 4)
              have h2 : OwnI ((wr.setCell ⟨B, 16, none⟩ (.int .i64 (l.getD 16 0 + d.getD 16 0 % 4))).drew) B (.slice (some ⟨B, 0, none⟩) L L) (l.set 16 (l.getD 16 0 + d.getD 16 0 % 4)) := h1
              exact h2.store (by rw [List.length_set, hl]) 0 _
            have HV : Hid (valD ((l.set 16 (l.getD 16 0 + d.getD 16 0 % 4)).set 0 (l.getD 0 0 + 5 * (d.getD 16 0 / 4 + d.getD 17 0 % 4 * 64))) = foldV d (16 + 1)) := by
              show _ = _
              have h1 := valD_add (l.set 16 (l.getD 16 0 + d.getD 16 0 % 4)) 0 (5 * (d.getD 16 0 / 4 + d.getD 17 0 % 4 * 64)) (by rw [List.length_set]; omega)
              rw [e0] at h1
              rw [h1, valD_add l 16 _ (by omega), hlv, foldV_high d 16 (by omega) (by omega), if_pos rfl, ep]
            have HB : Hid (∀ j, 0 ≤ ((l.set 16 (l.getD 16 0 + d.getD 16 0 % 4)).set 0 (l.getD 0 0 + 5 * (d.getD 16 0 / 4 + d.getD 17 0 % 4 * 64))).getD j 0 ∧ ((l.set 16 (l.getD 16 0 + d.getD 16 0 % 4)).set 0 (l.getD 0 0 + 5 * (d.getD 16 0 / 4 + d.getD 17 0 % 4 * 64))).getD j 0 < 3000 * ((16 + 1 : Nat) : Int) + 1) := fun j => getD_set _ 0 j _ _ (by omega) (fun i => getD_set l 16 i _ _ (by omega) (fun i => ⟨(hlb i).1, by have := (hlb i).2; omega⟩) (by omega)) (by omega)
            have HL : Hid (((l.set 16 (l.getD 16 0 + d.getD 16 0 % 4)).set 0 (l.getD 0 0 + 5 * (d.getD 16 0 / 4 + d.getD 17 0 % 4 * 64))).length = L) := by show _ = _; rw [List.length_set, List.length_set, hl]
            have HC : Hid (∀ j, j < L → (((wr.setCell ⟨B, 16, none⟩ (.int .i64 (l.getD 16 0 + d.getD 16 0 % 4))).drew).setCell ⟨B, 0, none⟩ (.int .i64 (l.getD 0 0 + 5 * (d.getD 16 0 / 4 + d.getD 17 0 % 4 * 64)))).cell? ⟨g1, j, none⟩ = some (.int .i64 (d.getD j 0))) := fun j hj => (World.cell?_setCell_other _ _ _ _ (fun e => by injection e with e1; omega)).trans ((World.cell?_setCell_other _ _ _ _ (fun e => by injection e with e1; omega)).trans (hcd j hj))
            have HF : Hid (foldH d (16 + 1) = (foldH d 16 || decide (0 < (d.getD 16 0 / 4 + d.getD 17 0 % 4 * 64)))) := by rw [← ep]; exact foldH_next hall 16 (by omega) (by omega)
            have hfz : foldH d 16 = false := foldH_zero d 16 (by omega)
            have hq : (d.getD 16 0).tdiv 4 = d.getD 16 0 / 4 := Int.tdiv_eq_ediv_of_nonneg hX.1
            have hr0 : (d.getD 16 0).tmod 4 = d.getD 16 0 % 4 := Int.tmod_eq_emod_of_nonneg hX.1
            have hr : (d.getD 17 0).tmod 4 = d.getD 17 0 % 4 := Int.tmod_eq_emod_of_nonneg hX1.1
            have x0 := hX.1
            have x1 := hX.2
            have x2 := hX1.1
            have x3 := hX1.2
            have y0 := hlk.1
            have y1 : l.getD 16 0 < 1099511627776 := by omega
            have y2 := hlk0.1
            have y3 : l.getD 0 0 < 1099511627776 := by omega
            have hL17 : (17 : Int) < (L : Int) := by omega
            have hL16 : (16 : Int) < (L : Int) := by omega
            have hL0 : (0 : Int) < (L : Int) := by omega
            clear hX hX1 hlk hlk0 hlb hlv hcd hown hP ep e0
            rw [hfz] at HF ⊢
            generalize ((l.set 16 (l.getD 16 0 + d.getD 16 0 % 4)).set 0 (l.getD 0 0 + 5 * (d.getD 16 0 / 4 + d.getD 17 0 % 4 * 64))) = l' at *
            generalize l.getD 0 0 = Y at *
            generalize l.getD 16 0 = Z at *
            generalize d.getD 16 0 = X at *
            generalize d.getD 17 0 = X2 at *
            go_wp2
            go_region
            go_wp2
            go_roundw
            case rel => exact ⟨16 + 1, l', by omega, by go_num, by rw [HF.out]; simp, HL.out, HB.out, HV.out, HN.out, HC.out, by simpa [World.setCell] using hsz, ((hbel.setCell (by show w.heap.size ≤ B; exact HSZ.out) _).drew).setCell (by show w.heap.size ≤ B; exact HSZ.out) _⟩
            case measure => simp [intOf]; omega
          · by_cases h1 : k + 1 < L
            · obtain ⟨m, hm⟩ : ∃ m, m + 16 = k := ⟨k - 16, by omega⟩
              have hc := hown.cell hl.symm m (by omega)
              have hz := hown.frozen hl.symm m
              have hlk := hlb m
              have hX1 := allD_getD hall (k + 1)
              have hP := foldP_bd (allD_getD hall) k
              have hcx1 := hcd (k + 1) h1
              have ep : foldP d k = d.getD k 0 / 4 + d.getD (k + 1) 0 % 4 * 64 := rfl
              rw [ep] at hP
              have HN : Hid (OwnI (wr.setCell ⟨B, m, none⟩ (.int .i64 (l.getD m 0 + 5 * (d.getD k 0 / 4 + d.getD (k + 1) 0 % 4 * 64)))) B (.slice (some ⟨B, 0, none⟩) L L) (l.set m (l.getD m 0 + 5 * (d.getD k 0 / 4 + d.getD (k + 1) 0 % 4 * 64)))) := hown.store hl.symm m _
              have HV : Hid (valD (l.set m (l.getD m 0 + 5 * (d.getD k 0 / 4 + d.getD (k + 1) 0 % 4 * 64))) = foldV d (k + 1)) := by show _ = _; rw [valD_add l m _ (by omega), hlv, foldV_high d k (by omega) (by omega), if_neg hk16, ep, show k - 16 = m from by omega, Int.add_zero]
              have HB : Hid (∀ j, 0 ≤ (l.set m (l.getD m 0 + 5 * (d.getD k 0 / 4 + d.getD (k + 1) 0 % 4 * 64))).getD j 0 ∧ (l.set m (l.getD m 0 + 5 * (d.getD k 0 / 4 + d.getD (k + 1) 0 % 4 * 64))).getD j 0 < 3000 * ((k + 1 : Nat) : Int) + 1) := fun j => getD_set l m j _ _ (by omega) (fun i => ⟨(hlb i).1, by have := (hlb i).2; omega⟩) (by omega)
              have HL : Hid ((l.set m (l.getD m 0 + 5 * (d.getD k 0 / 4 + d.getD (k + 1) 0 % 4 * 64))).length = L) := by show _ = _; rw [List.length_set, hl]
              have HC : Hid (∀ j, j < L → (wr.setCell ⟨B, m, none⟩ (.int .i64 (l.getD m 0 + 5 * (d.getD k 0 / 4 + d.getD (k + 1) 0 % 4 * 64)))).cell? ⟨g1, j, none⟩ = some (.int .i64 (d.getD j 0))) := fun j hj => (World.cell?_setCell_other _ _ _ _ (fun e => by injection e with e1; omega)).trans (hcd j hj)
              have HF : Hid (foldH d (k + 1) = (foldH d k || decide (0 < (d.getD k 0 / 4 + d.getD (k + 1) 0 % 4 * 64)))) := by rw [← ep]; exact foldH_next hall k (by omega) (by omega)
              have hq : (d.getD k 0).tdiv 4 = d.getD k 0 / 4 := Int.tdiv_eq_ediv_of_nonneg hX.1
              have hr : (d.getD (k + 1) 0).tmod 4 = d.getD (k + 1) 0 % 4 := Int.tmod_eq_emod_of_nonneg hX1.1
              have x0 := hX.1
              have x1 := hX.2
              have x2 := hX1.1
              have x3 := hX1.2
              have y0 := hlk.1
              have y1 : l.getD m 0 < 1099511627776 := by omega
              have ht : ((k : Int) - 16).toNat = m := by omega
              have ht0 : 0 ≤ (k : Int) - 16 := by omega
              have ht1 : (k : Int) - 16 < (L : Int) := by omega
              have hi16 : ¬ ((k : Int) < 16) := by omega
              have he16 : ((k : Int) == 16) = false := by simp; omega
              have he16' : ¬ ((k : Int) = 16) := by omega
              clear hX hX1 hlk hlb hlv hcd hown hP ep
              generalize l.set m (l.getD m 0 + 5 * (d.getD k 0 / 4 + d.getD (k + 1) 0 % 4 * 64)) = l' at *
              generalize l.getD m 0 = Y at *
              generalize d.getD k 0 = X at *
              generalize d.getD (k + 1) 0 = X2 at *
              have h1' : (k : Int) + 1 < (L : Int) := by omega
              have ht2 : ((k : Int) + 1).toNat = k + 1 := by omega
              generalize foldH d k = hh at *
              cases hh
              · go_wp2
                go_roundw
                case rel => exact ⟨k + 1, l', by omega, by go_num, by rw [HF.out]; simp, HL.out, HB.out, HV.out, HN.out, HC.out, by simpa [World.setCell] using hsz, hbel.setCell (by show w.heap.size ≤ B; exact HSZ.out) _⟩
                case measure => simp [intOf]; omega
              · go_wp2
                go_roundw
                case rel => exact ⟨k + 1, l', by omega, by go_num, by rw [HF.out]; simp, HL.out, HB.out, HV.out, HN.out, HC.out, by simpa [World.setCell] using hsz, hbel.setCell (by show w.heap.size ≤ B; exact HSZ.out) _⟩
                case measure => simp [intOf]; omega
            · obtain ⟨m, hm⟩ : ∃ m, m + 16 = k := ⟨k - 16, by omega⟩
              have hc := hown.cell hl.symm m (by omega)
              have hz := hown.frozen hl.symm m
              have hlk := hlb m
              have hX1 := allD_getD hall (k + 1)
              have hP := foldP_bd (allD_getD hall) k
              have ep : foldP d k = d.getD k 0 / 4 := by
                unfold foldP
                rw [show d.getD (k + 1) 0 = 0 from by rw [List.getD_eq_getElem?_getD, List.getElem?_eq_none (by omega)]; rfl]
                omega
              rw [ep] at hP
              have HN : Hid (OwnI (wr.setCell ⟨B, m, none⟩ (.int .i64 (l.getD m 0 + 5 * (d.getD k 0 / 4)))) B (.slice (some ⟨B, 0, none⟩) L L) (l.set m (l.getD m 0 + 5 * (d.getD k 0 / 4)))) := hown.store hl.symm m _
              have HV : Hid (valD (l.set m (l.getD m 0 + 5 * (d.getD k 0 / 4))) = foldV d (k + 1)) := by show _ = _; rw [valD_add l m _ (by omega), hlv, foldV_high d k (by omega) (by omega), if_neg hk16, ep, show k - 16 = m from by omega, Int.add_zero]
              have HB : Hid (∀ j, 0 ≤ (l.set m (l.getD m 0 + 5 * (d.getD k 0 / 4))).getD j 0 ∧ (l.set m (l.getD m 0 + 5 * (d.getD k 0 / 4))).getD j 0 < 3000 * ((k + 1 : Nat) : Int) + 1) := fun j => getD_set l m j _ _ (by omega) (fun i => ⟨(hlb i).1, by have := (hlb i).2; omega⟩) (by omega)
              have HL : Hid ((l.set m (l.getD m 0 + 5 * (d.getD k 0 / 4))).length = L) := by show _ = _; rw [List.length_set, hl]
              have HC : Hid (∀ j, j < L → (wr.setCell ⟨B, m, none⟩ (.int .i64 (l.getD m 0 + 5 * (d.getD k 0 / 4)))).cell? ⟨g1, j, none⟩ = some (.int .i64 (d.getD j 0))) := fun j hj => (World.cell?_setCell_other _ _ _ _ (fun e => by injection e with e1; omega)).trans (hcd j hj)
              have HF : Hid (foldH d (k + 1) = (foldH d k || decide (0 < (d.getD k 0 / 4)))) := by rw [← ep]; exact foldH_next hall k (by omega) (by omega)
              have hq : (d.getD k 0).tdiv 4 = d.getD k 0 / 4 := Int.tdiv_eq_ediv_of_nonneg hX.1
              have hr : (d.getD (k + 1) 0).tmod 4 = d.getD (k + 1) 0 % 4 := Int.tmod_eq_emod_of_nonneg hX1.1
              have x0 := hX.1
              have x1 := hX.2
              have x2 := hX1.1
              have x3 := hX1.2
              have y0 := hlk.1
              have y1 : l.getD m 0 < 1099511627776 := by omega
              have ht : ((k : Int) - 16).toNat = m := by omega
              have ht0 : 0 ≤ (k : Int) - 16 := by omega
              have ht1 : (k : Int) - 16 < (L : Int) := by omega
              have hi16 : ¬ ((k : Int) < 16) := by omega
              have he16 : ((k : Int) == 16) = false := by simp; omega
              have he16' : ¬ ((k : Int) = 16) := by omega
              clear hX hX1 hlk hlb hlv hcd hown hP ep
              generalize l.set m (l.getD m 0 + 5 * (d.getD k 0 / 4)) = l' at *
              generalize l.getD m 0 = Y at *
              generalize d.getD k 0 = X at *
              generalize d.getD (k + 1) 0 = X2 at *
              have h1' : ¬ ((k : Int) + 1 < (L : Int)) := by omega
              generalize foldH d k = hh at *
              cases hh
              · go_wp2
                go_roundw
                case rel => exact ⟨k + 1, l', by omega, by go_num, by rw [HF.out]; simp, HL.out, HB.out, HV.out, HN.out, HC.out, by simpa [World.setCell] using hsz, hbel.setCell (by show w.heap.size ≤ B; exact HSZ.out) _⟩
                case measure => simp [intOf]; omega
              · go_wp2
                go_roundw
                case rel => exact ⟨k + 1, l', by omega, by go_num, by rw [HF.out]; simp, HL.out, HB.out, HV.out, HN.out, HC.out, by simpa [World.setCell] using hsz, hbel.setCell (by show w.heap.size ≤ B; exact HSZ.out) _⟩
                case measure => simp [intOf]; omega
      · obtain rfl : k = L := by omega
        clear hcx0 hcd
        obtain ⟨hsv, hlo, hhi⟩ := split_of hall (by omega)
        have hve := foldV_end d (by omega)
        have hfe := foldH_end d
        rw [hLL] at hve hfe
        rw [hve] at hlv
        rw [hfe]
        clear hve hfe
        have hcl : ∀ j, j < k → wr.cell? ⟨B, j, none⟩ = some (.int .i64 (l.getD j 0)) := fun j hj => hown.cell hl.symm j (by omega)
        have hlb2 : ∀ j, 0 ≤ l.getD j 0 ∧ l.getD j 0 < 1099511627776 := fun j => ⟨(hlb j).1, by have := (hlb j).2; omega⟩
        have hBs : B < wr.heap.size := by omega
        have hlv0 : 0 ≤ valD l := by omega
        have hlv1 : valD l < 256 ^ 34 := by omega
        have HRE : Hid (valD l % p130 = V % p130) := by
          show _ = _
          rw [hlv, fold_rest, ← hsv, hvr]
        have hdk : decide ((k : Int) < (k : Int)) = false := by simp
        by_cases hpos : 0 < hi130 d
        · rw [decide_eq_true hpos]
          have hms2 := rowV_is (cap := k) hl hcl
          have HMS2 : Hid (rowV wr (.slice (some ⟨B, 0, none⟩) k k) = (valD l).toNat) := hms2
          have HLT : Hid ((valD l).toNat < (valD d).toNat) := by
            show _ < _
            omega
          clear hms2
          go_wp2
          go_roundw
          case rel => exact ⟨k, B, k, l, rfl, hl, hBs, hcl, hlb2, hd18, hL34, hlv0, hlv1, HRE.out, hbel⟩
          case measure =>
            rw [HMS.out, HMS2.out]
            exact HLT.out
        · rw [decide_eq_false hpos]
          have hh0 : hi130 d = 0 := by omega
          have hlt130 : valD l < 1361129467683753853853498429727072845824 := by omega
          go_wp2_with fail
          refine (ref_carry l (some ⟨B, 0, none⟩) B k k wr hl (Or.inr rfl) (Or.inl hBs) hcl hlb2 (by omega) 34 hlv1 (by decide)).mono ?_
          rintro e w3 ⟨⟨d3, v3, hall3, hvd3, hd183, hdl3, hown3, rfl⟩, b3⟩
          obtain ⟨g3, cap3, rfl, hg3, hg3'⟩ := hown3.form (by omega)
          have HC3 : Hid (OwnI w3 wr.heap.size (.slice (some ⟨g3, 0, none⟩) 18 cap3) (d3.take 18)) := hown3.cut 18 rfl hd183
          have hcap := hown3.capLe rfl
          have hcap' : (18 : Int) ≤ (cap3 : Int) := by omega
          have hcap2 : 18 ≤ cap3 := by omega
          go_wp2
          go_ret
          refine ⟨⟨d3.take 18, g3, cap3, by rw [List.length_take]; omega, fun x hx => hall3 x (List.mem_of_mem_take hx), ?_, ?_, (OwnI.base HC3.out hbel.size), rfl⟩, hbel.trans (b3.mono hbel.size)⟩
          · rw [valD_drop hall3 18 hd183 (by rw [hvd3, show (256 : Int) ^ 18 = 22300745198530623141535718272648361505980416 from by decide]; omega), hvd3]; exact hlt130
          · rw [valD_drop hall3 18 hd183 (by rw [hvd3, show (256 : Int) ^ 18 = 22300745198530623141535718272648361505980416 from by decide]; omega), hvd3]; exact HRE.out

end Go.Proofs.YtanghehmfagmfaaGreatDoor

/-
  The contracts of the reference's Size, Pad and Unpad.
-/
namespace Go.Proofs.YtanghehmfagmfaaGreatDoor
open Go.RowKit
set_option linter.unusedVariables false
set_option maxRecDepth 100000
set_option linter.unusedSimpArgs false

theorem ret_is {x y : Int} {a b : Bool} (h : x = y) (h2 : a = b) : Ending.returned (.tuple #[.int .i64 x, .bool a]) = .returned (.tuple #[.int .i64 y, .bool b]) := by rw [h, h2]
/-- The first k sizes do not fit. -/
theorem size_at (n : Int) (k : Nat) (hk : k < 4) (h : ∀ j, j < k → ¬ (0 ≤ n ∧ n ≤ sizesL.getD j 0 - 2)) (hy : 0 ≤ n ∧ n ≤ sizesL.getD k 0 - 2) : sizeN n = sizesL.getD k 0 ∧ sizeOk n = true := by
  have h0 := h 0
  have h1 := h 1
  have h2 := h 2
  unfold sizesL at *
  unfold sizeN sizeOk
  match k, hk with
  | 0, _ => simp at hy ⊢; rw [if_neg (by omega), if_pos (by omega)]; omega
  | 1, _ => simp at hy h0 ⊢; rw [if_neg (by omega), if_neg (by omega), if_pos (by omega)]; omega
  | 2, _ => simp at hy h0 h1 ⊢; rw [if_neg (by omega), if_neg (by omega), if_neg (by omega), if_pos (by omega)]; omega
  | 3, _ => simp at hy h0 h1 h2 ⊢; rw [if_neg (by omega), if_neg (by omega), if_neg (by omega), if_neg (by omega), if_pos (by omega)]; omega
theorem size_none (n : Int) (h : ∀ j, j < 4 → ¬ (0 ≤ n ∧ n ≤ sizesL.getD j 0 - 2)) : sizeN n = 0 ∧ sizeOk n = false := by
  have h3 := h 3 (by omega)
  have hn : ¬ (0 ≤ n ∧ n ≤ 2046) := by simpa [sizesL] using h3
  exact ⟨sizeN_no n hn, decide_eq_false hn⟩

set_option maxHeartbeats 400000 in
theorem ref_size (n : Int) (w : World) (hn0 : -9223372036854775808 ≤ n) (hn1 : n ≤ 9223372036854775807) :
    Calls Tryz.prog 27 #[.int .i64 n] w fun e w' => e = .returned (.tuple #[.int .i64 (sizeN n), .bool (sizeOk n)]) ∧ Below w.heap.size w w' := by
  go_enter Tryz.func27, Tryz.ntmps27
  go_wp2_with fail
  have r0 : RowIs (w.alloc (.cells #[.int .i64 32, .int .i64 128, .int .i64 512, .int .i64 2048] 3)) w.heap.size 3 (cellsI sizesL) := RowIs.new w _ (cellsI sizesL)
  have b0 : Below w.heap.size w (w.alloc (.cells #[.int .i64 32, .int .i64 128, .int .i64 512, .int .i64 2048] 3)) := (Below.refl _ _).alloc (Nat.le_refl _) _
  generalize w.alloc (.cells #[.int .i64 32, .int .i64 128, .int .i64 512, .int .i64 2048] 3) = w1 at *
  go_loopw [5] (fun i wr => ∃ k : Nat, k ≤ 4 ∧ i = .int .i64 k ∧ (∀ j, j < k → ¬ (0 ≤ n ∧ n ≤ sizesL.getD j 0 - 2)) ∧ wr = w1) (fun i _ => 4 - (intOf i).toNat)
  case atStart => exact ⟨0, by omega, rfl, fun j hj => by omega, rfl⟩
  case round =>
    obtain ⟨k, hk, rfl, hno, rfl⟩ := hrel
    have HNO : Hid _ := hno
    clear hno
    by_cases hlt : k < 4
    · have hc : wr.cell? ⟨w.heap.size, k, none⟩ = some (.int .i64 (sizesL.getD k 0)) := r0.cellAt (cellsI_at sizesL k hlt)
      have hs : 32 ≤ sizesL.getD k 0 ∧ sizesL.getD k 0 ≤ 2048 := by
        match k, hlt with
        | 0, _ => decide
        | 1, _ => decide
        | 2, _ => decide
        | 3, _ => decide
      have d1 : decide ((k : Int) < 4) = true := by simp; omega
      have d2 : (k : Int) < 4 := by omega
      by_cases hy : 0 ≤ n ∧ n ≤ sizesL.getD k 0 - 2
      · have hsz := size_at n k hlt HNO.out hy
        have HZ : Hid _ := hsz
        have e1 : decide (0 ≤ n) = true := decide_eq_true hy.1
        have e2 : decide (n ≤ sizesL.getD k 0 - 2) = true := decide_eq_true hy.2
        clear hsz hy
        generalize sizesL.getD k 0 = Z at *
        go_wp2
        go_ret2
        exact ⟨ret_is HZ.out.1.symm HZ.out.2.symm, b0⟩
      · have HY : Hid _ := hy
        clear hy
        by_cases h0 : 0 ≤ n
        · have e1 : decide (0 ≤ n) = true := decide_eq_true h0
          have e2 : decide (n ≤ sizesL.getD k 0 - 2) = false := decide_eq_false (fun h => HY.out ⟨h0, h⟩)
          obtain ⟨Z, hZ⟩ : ∃ Z, sizesL.getD k 0 = Z := ⟨_, rfl⟩
          rw [hZ] at hc hs e2
          clear hZ
          go_wp2
          go_roundw
          case rel => exact ⟨k + 1, by omega, by go_num, fun j hj => by rcases Nat.lt_or_eq_of_le (Nat.le_of_lt_succ hj) with h | rfl; exact HNO.out j h; exact HY.out, by first | rfl | trivial⟩
          case measure => simp [intOf]; omega
        · have e1 : decide (0 ≤ n) = false := decide_eq_false h0
          clear hc hs
          go_wp2
          go_roundw
          case rel => exact ⟨k + 1, by omega, by go_num, fun j hj => by rcases Nat.lt_or_eq_of_le (Nat.le_of_lt_succ hj) with h | rfl; exact HNO.out j h; exact HY.out, by first | rfl | trivial⟩
          case measure => simp [intOf]; omega
    · obtain rfl : k = 4 := by omega
      have hsz := size_none n HNO.out
      go_wp2
      go_ret2
      exact ⟨ret_is hsz.1.symm hsz.2.symm, b0⟩

end Go.Proofs.YtanghehmfagmfaaGreatDoor

/-
  The contracts of the reference's Pad and Unpad.
-/
namespace Go.Proofs.YtanghehmfagmfaaGreatDoor
open Go.RowKit
set_option linter.unusedVariables false
set_option maxRecDepth 100000
set_option linter.unusedSimpArgs false

theorem ret_sb8 {a b : ByteArray} {c d : Bool} (h : a = b) (h2 : c = d) : Ending.returned (.tuple #[.string a, .bool c]) = .returned (.tuple #[.string b, .bool d]) := by rw [h, h2]
theorem bel_chain81 {w w1 w2 : World} (h1 : Below w.heap.size w w1) (h2 : Below w1.heap.size w1 w2) : Below w.heap.size w w2 := h1.trans (h2.mono h1.size)
theorem str_app8 (a b : List UInt8) : str a ++ str b = str (a ++ b) := by simp [str, ByteArray.ext_iff]

theorem ref_pad (b : ByteArray) (w : World) (hb : b.size ≤ 1000000) :
    Calls Tryz.prog 38 #[.string b] w fun e w' => e = .returned (.tuple #[.string (padS b), .bool (padOk b)]) ∧ Below w.heap.size w w' := by
  have PZ : Hid _ := fun w => ref_size (b.size : Int) w (by omega) (by omega)
  by_cases h : b.size ≤ 2046
  · obtain ⟨e1, e2⟩ := padS_yes b h
    have hz := sizeN_bd (b.size : Int) (by omega) (by omega)
    have ok : sizeOk (b.size : Int) = true := decide_eq_true (by omega)
    have HS : Hid (putBigS (b.size : Int) 2 ++ b ++ str (List.replicate ((sizeN (b.size : Int)).toNat - 2 - b.size) 0) = padS b) := by
      show _ = _
      rw [e2]
      unfold pad8L putBigS
      rw [show b = str b.data.toList from (str_back b).symm, str_app8, str_app8]
      simp [str]
    have hzz : (sizeN (b.size : Int)) - 2 - (b.size : Int) = (((sizeN (b.size : Int)).toNat - 2 - b.size : Nat) : Int) := by omega
    have PQ : Hid (∀ w, Calls Tryz.prog 95 #[.int .i64 (sizeN (b.size : Int) - 2 - (b.size : Int))] w fun e w' => e = .returned (.string (str (List.replicate ((sizeN (b.size : Int)).toNat - 2 - b.size) 0))) ∧ Below w.heap.size w w') := fun w => by
      rw [hzz]
      exact ref_zeros _ w (by omega)
    have q1 : (str (List.replicate ((sizeN (b.size : Int)).toNat - 2 - b.size) (0 : UInt8))).size ≤ 2048 := by rw [str_size, List.length_replicate]; omega
    have PB : Hid (∀ w, Calls Tryz.prog 28 #[.int .u64 (b.size : Int), .int .i64 2] w fun e w' => e = .returned (.string (putBigS (b.size : Int) 2)) ∧ Below w.heap.size w w') := fun w => ref_putBig_yes (b.size : Int) 2 w (by omega) (by omega) (by omega) (by omega)
    have q2 : (putBigS (b.size : Int) 2).size = 2 := by rw [putBigS, str_size, putBig2_len]
    have u1 : IntKind.u64.wrap (b.size : Int) = b.size := by rw [IntKind.wrap_u64]; omega
    rw [ok] at PZ
    rw [e1]
    clear hzz e1 e2 ok
    generalize str (List.replicate ((sizeN (b.size : Int)).toNat - 2 - b.size) (0 : UInt8)) = Z at *
    generalize putBigS (b.size : Int) 2 = P at *
    generalize sizeN (b.size : Int) = S at *
    have n1 : ¬ (9223372036854775807 < P.size + b.size) := by omega
    obtain ⟨A, hA⟩ : ∃ A, P ++ b = A := ⟨_, rfl⟩
    have hAs : A.size = P.size + b.size := by rw [← hA, ByteArray.size_append]
    rw [hA] at HS
    have n2 : ¬ (9223372036854775807 < A.size + Z.size) := by omega
    go_enter Tryz.func38, Tryz.ntmps38
    go_wp2_with fail
    with_reducible refine (PZ.out _).mono ?_
    rintro e w1 ⟨rfl, b1⟩
    go_wp2_with fail
    with_reducible refine (PB.out _).mono ?_
    rintro e w2 ⟨rfl, b2⟩
    replace b1 := bel_chain81 b1 b2
    clear b2
    go_wp2_with fail
    with_reducible refine (PQ.out _).mono ?_
    rintro e w3 ⟨rfl, b3⟩
    replace b1 := bel_chain81 b1 b3
    clear b3
    go_wp2
    go_ret2
    exact ⟨ret_sb8 HS.out rfl, b1⟩
  · obtain ⟨e1, e2⟩ := padS_no b h
    have ok : sizeOk (b.size : Int) = false := decide_eq_false (by omega)
    rw [ok] at PZ
    rw [e1, e2]
    clear e1 e2 ok
    generalize sizeN (b.size : Int) = S at *
    go_enter Tryz.func38, Tryz.ntmps38
    go_wp2_with fail
    with_reducible refine (PZ.out _).mono ?_
    rintro e w1 ⟨rfl, b1⟩
    go_wp2
    go_ret2
    exact ⟨rfl, b1⟩

theorem mid_str (b : ByteArray) (n : Nat) (hn : n + 2 ≤ b.size) (w : World) :
    (Instr.slice 9 (.string b) (some (.int .i64 2)) (some (.int .i64 (2 + (n : Int)))) none).run Tryz.prog w = .ok (.string (b.extract 2 (2 + n))) w := by
  have h := run_slice_string (P := Tryz.prog) w 9 b .i64 .i64 2 (2 + (n : Int)) Tryz.underlying9 (by omega) (by omega) (by omega)
  rw [h]
  congr 2
theorem unpad_no (b : ByteArray) (h : ¬ (2 ≤ b.size ∧ headN b + 2 ≤ b.size ∧ padOk (b.extract 2 (2 + headN b)) = true ∧ padS (b.extract 2 (2 + headN b)) = b)) : unpadOk b = false ∧ unpadS b = ⟨#[]⟩ := by
  have : unpadOk b = false := decide_eq_false h
  exact ⟨this, by unfold unpadS; rw [this]; rfl⟩

set_option maxHeartbeats 400000 in
theorem ref_unpad (b : ByteArray) (w : World) (hb : b.size ≤ 1000000) :
    Calls Tryz.prog 82 #[.string b] w fun e w' => e = .returned (.tuple #[.string (unpadS b), .bool (unpadOk b)]) ∧ Below w.heap.size w w' := by
  by_cases h2 : b.size < 2
  · obtain ⟨e1, e2⟩ := unpad_no b (fun h => by omega)
    rw [e1, e2]
    have hlt : (b.size : Int) < 2 := by omega
    clear e1 e2
    go_enter Tryz.func82, Tryz.ntmps82
    go_wp2
    go_ret2
    exact ⟨rfl, Below.refl _ _⟩
  · have hlt : ¬ (b.size : Int) < 2 := by omega
    have hle : (2 : Int) ≤ (b.size : Int) := by omega
    have hx : (b.extract 0 2).size = 2 := by simp; omega
    have hB := fun w => ref_big (b.extract 0 2) w (by unfold maxLen; omega)
    rw [← headN_is b] at hB
    have PB : Hid _ := hB
    clear hB
    have hno := unpad_no b
    have hh := headN_lt b (by omega)
    have HUS : Hid (unpadOk b = true → unpadS b = b.extract 2 (2 + headN b)) := fun h => by unfold unpadS; rw [h, if_pos rfl]
    have HUO : Hid (unpadOk b = decide (2 ≤ b.size ∧ headN b + 2 ≤ b.size ∧ padOk (b.extract 2 (2 + headN b)) = true ∧ padS (b.extract 2 (2 + headN b)) = b)) := rfl
    generalize headN b = n at *
    have hcv : IntKind.i64.wrap (n : Int) = n := IntWalk.i64_in _ ⟨by omega, by omega⟩
    by_cases hn : n + 2 ≤ b.size
    · have hgt : ¬ ((b.size : Int) - 2 < (n : Int)) := by omega
      have hle2 : (2 : Int) + (n : Int) ≤ (b.size : Int) := by omega
      have hxx : (b.extract 2 (2 + n)).size = n := by simp; omega
      have hmid := mid_str b n hn
      have PP : Hid _ := fun w => ref_pad (b.extract 2 (2 + n)) w (by omega)
      by_cases ho : padOk (b.extract 2 (2 + n)) = true ∧ padS (b.extract 2 (2 + n)) = b
      · have ok : unpadOk b = true := by rw [HUO.out]; exact decide_eq_true ⟨by omega, hn, ho⟩
        rw [ok, HUS.out ok]
        rw [ho.1, ho.2] at PP
        have e1 := str_beq_self b
        clear ho ok hno HUS HUO
        go_enter Tryz.func82, Tryz.ntmps82
        go_wp2_with fail
        with_reducible refine (PB.out _).mono ?_
        rintro e w' ⟨rfl, rfl⟩
        go_wp2_with fail
        with_reducible refine (PP.out _).mono ?_
        rintro e w1 ⟨rfl, b1⟩
        go_wp2
        go_ret2
        exact ⟨rfl, b1⟩
      · obtain ⟨e1, e2⟩ := hno (fun h => ho h.2.2)
        rw [e1, e2]
        cases hp : padOk (b.extract 2 (2 + n))
        · rw [hp] at PP
          clear ho hp e1 e2 hno HUS HUO
          generalize padS (b.extract 2 (2 + n)) = S at *
          go_enter Tryz.func82, Tryz.ntmps82
          go_wp2_with fail
          with_reducible refine (PB.out _).mono ?_
          rintro e w' ⟨rfl, rfl⟩
          go_wp2_with fail
          with_reducible refine (PP.out _).mono ?_
          rintro e w1 ⟨rfl, b1⟩
          go_wp2
          go_ret2
          exact ⟨rfl, b1⟩
        · rw [hp] at PP
          have e3 : ((padS (b.extract 2 (2 + n))).toList == b.toList) = false := by rw [str_beq]; exact decide_eq_false (fun h => ho ⟨hp, h⟩)
          clear ho hp e1 e2 hno HUS HUO
          generalize padS (b.extract 2 (2 + n)) = S at *
          go_enter Tryz.func82, Tryz.ntmps82
          go_wp2_with fail
          with_reducible refine (PB.out _).mono ?_
          rintro e w' ⟨rfl, rfl⟩
          go_wp2_with fail
          with_reducible refine (PP.out _).mono ?_
          rintro e w1 ⟨rfl, b1⟩
          go_wp2
          go_ret2
          exact ⟨rfl, b1⟩
    · have hgt : ((b.size : Int) - 2 < (n : Int)) := by omega
      obtain ⟨e1, e2⟩ := hno (fun h => hn h.2.1)
      rw [e1, e2]
      clear e1 e2 hno HUS HUO
      go_enter Tryz.func82, Tryz.ntmps82
      go_wp2_with fail
      with_reducible refine (PB.out _).mono ?_
      rintro e w' ⟨rfl, rfl⟩
      go_wp2
      go_ret2
      exact ⟨rfl, Below.refl _ _⟩

end Go.Proofs.YtanghehmfagmfaaGreatDoor

/-
  Laws of chapter 8 over contracts of package pad: alive, PadOnly, PadSizes.
-/
namespace Go.Proofs.YtanghehmfagmfaaGreatDoor
open Go.RowKit
set_option linter.unusedVariables false
set_option maxRecDepth 100000
set_option linter.unusedSimpArgs false

theorem bel_chain82 {w w1 w2 : World} (h1 : Below w.heap.size w w1) (h2 : Below w1.heap.size w1 w2) : Below w.heap.size w w2 := h1.trans (h2.mono h1.size)
end Go.Proofs.YtanghehmfagmfaaGreatDoor
