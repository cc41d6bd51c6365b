/-
  The contract of the reference's carry: digits below 256, the lowest first, at least eighteen of them.
-/
import Derived.Test.YtjccdfnhcifgiaaPoly7
import Derived.Test.YtjccdfnhcifgiaaOct7
import Derived.Deep.AppendLies
namespace Go.Proofs.Ytjccdfnhcifgiaa
open Go.RowKit
set_option linter.unusedVariables false
set_option maxRecDepth 100000
set_option linter.unusedSimpArgs false

theorem infoI : (Try.prog.info? 3).map (fun i => (i.zero, i.size, i.bytes)) = some (some (.int .i64 0), 1, 8) := by kernel_rfl
def cellsI (l : List Int) : List Value := l.map (Value.int .i64)
theorem cellsI_len (l : List Int) : (cellsI l).length = l.length := by simp [cellsI]
theorem cellsI_one (l : List Int) : ∀ v ∈ cellsI l, v.oneCell' = true := by
  intro v hv
  obtain ⟨x, _, rfl⟩ := List.mem_map.1 hv
  rfl
theorem cellsI_at (l : List Int) (j : Nat) (h : j < l.length) : (cellsI l)[j]? = some (.int .i64 (l.getD j 0)) := by
  simp [cellsI, h, List.getD_eq_getElem?_getD]
theorem cellsI_set (l : List Int) (j : Nat) (v : Int) : (cellsI l).set j (.int .i64 v) = cellsI (l.set j v) := by simp [cellsI, List.map_set]
theorem cellsI_append (a b : List Int) : cellsI (a ++ b) = cellsI a ++ cellsI b := by simp [cellsI]
/-- A row of numbers of the call's own. -/
def OwnI (w : World) (base : Nat) (v : Value) (l : List Int) : Prop := w.ownsRow base 3 1 v l.length (cellsI l)
theorem OwnI.form {w : World} {base : Nat} {v : Value} {l : List Int} (h : OwnI w base v l) (hl : 0 < l.length) : ∃ g cap, v = .slice (some ⟨g, 0, none⟩) l.length cap ∧ base ≤ g ∧ g < w.heap.size := World.ownsRow.form h hl
theorem OwnI.cell {w : World} {base g n cap : Nat} {l : List Int} (h : OwnI w base (.slice (some ⟨g, 0, none⟩) n cap) l) (hn : n = l.length) (j : Nat) (hj : j < l.length) : w.cell? ⟨g, j, none⟩ = some (.int .i64 (l.getD j 0)) := by
  subst hn
  rw [World.ownsRow.cellAt h j (by omega), cellsI_at l j hj]
theorem OwnI.frozen {w : World} {base g n cap : Nat} {l : List Int} (h : OwnI w base (.slice (some ⟨g, 0, none⟩) n cap) l) (hn : n = l.length) (j : Nat) : w.frozen? ⟨g, j, none⟩ = false := by
  subst hn
  exact World.ownsRow.frozenAt h j
theorem OwnI.store {w : World} {base g n cap : Nat} {l : List Int} (h : OwnI w base (.slice (some ⟨g, 0, none⟩) n cap) l) (hn : n = l.length) (j : Nat) (v : Int) : OwnI (w.setCell ⟨g, j, none⟩ (.int .i64 v)) base (.slice (some ⟨g, 0, none⟩) n cap) (l.set j v) := by
  subst hn
  have := (World.ownsRow.stored h j (.int .i64 v)).1
  rw [cellsI_set] at this
  unfold OwnI
  rw [List.length_set]
  exact this
theorem OwnI.below {w w' : World} {base : Nat} {v : Value} {l : List Int} (h : OwnI w base v l) (hb : Below w.heap.size w w') : OwnI w' base v l := by
  refine ⟨h.1, ?_⟩
  rcases h.2 with hn | ⟨g, cap, cur, hv, hg, hh, r⟩
  · exact Or.inl hn
  · exact Or.inr ⟨g, cap, cur, hv, hg, by rw [hb.block g (Array.getElem?_eq_some_iff.1 hh).1]; exact hh, r⟩
theorem OwnI.other {w : World} {base g n cap : Nat} {l : List Int} (h : OwnI w base (.slice (some ⟨g, 0, none⟩) n cap) l) {a : Addr} (ha : g ≠ a.block) (v : Value) : OwnI (w.setCell a v) base (.slice (some ⟨g, 0, none⟩) n cap) l := by
  refine ⟨h.1, ?_⟩
  rcases h.2 with hn | ⟨g', cap', cur, hv, hg, hh, r⟩
  · exact Or.inl hn
  · have hv2 := hv
    simp only [Value.slice.injEq, Option.some.injEq, Addr.mk.injEq, and_true] at hv2
    exact Or.inr ⟨g', cap', cur, hv, hg, by rw [Below.heap_setCell _ _ _ _ (by rw [← hv2.1]; exact ha)]; exact hh, r⟩
theorem OwnI.base {w : World} {base base' : Nat} {v : Value} {l : List Int} (h : OwnI w base v l) (hb : base' ≤ base) : OwnI w base' v l := by
  refine ⟨h.1, ?_⟩
  rcases h.2 with hn | ⟨g, cap, cur, hv, hg, r⟩
  · exact Or.inl hn
  · exact Or.inr ⟨g, cap, cur, hv, by omega, r⟩

theorem OwnI.shape {w : World} {base : Nat} {v : Value} {l : List Int} (h : OwnI w base v l) : ∃ ao cap, v = .slice ao l.length cap := by
  rcases h.2 with ⟨hv, hn⟩ | ⟨g, cap, cur, hv, _⟩
  · exact ⟨none, 0, by rw [hv, hn]⟩
  · exact ⟨_, cap, hv⟩
/-- As long as something is carried the number is not yet told whole. -/
theorem room_end (xs d : List Int) (k M : Nat) (c : Int) (hd : allD d) (h : valD d + 256 ^ k * c = valD (xs.take k)) (hx : ¬ k < xs.length) (hc : 0 < c) (hM : valD xs < 256 ^ M) : k < M := by
  rw [List.take_of_length_le (by omega)] at h
  have h0 := (valD_bd hd).1
  have hp : (0 : Int) < 256 ^ k := Int.pow_pos (by decide)
  have h1 : (256 : Int) ^ k * 1 ≤ 256 ^ k * c := Int.mul_le_mul_of_nonneg_left (by omega) (Int.le_of_lt hp)
  by_cases hk : k < M
  · exact hk
  · have h2 := pow256_le M k (by omega)
    omega
/-- The digits so far and what is carried are the number so far. -/
theorem digit_next (xs d : List Int) (k : Nat) (c : Int) (hk : d.length = k) (h : valD d + 256 ^ k * c = valD (xs.take k)) (hx : k < xs.length) :
    valD (d ++ [(c + xs.getD k 0) % 256]) + 256 ^ (k + 1) * ((c + xs.getD k 0) / 256) = valD (xs.take (k + 1)) := by
  have := carry_step d (c + xs.getD k 0)
  rw [hk] at this
  rw [this, valD_take xs k hx, ← h, Int.mul_add, Int.add_assoc]
theorem digit_last (xs d : List Int) (k : Nat) (c : Int) (hk : d.length = k) (h : valD d + 256 ^ k * c = valD (xs.take k)) (hx : ¬ k < xs.length) :
    valD (d ++ [c % 256]) + 256 ^ (k + 1) * (c / 256) = valD (xs.take (k + 1)) := by
  have := carry_step d c
  rw [hk] at this
  rw [this, h, List.take_of_length_le (by omega), List.take_of_length_le (by omega)]
theorem allD_snoc {d : List Int} (h : allD d) (c : Int) : allD (d ++ [c % 256]) := allD_append h (allD_one ⟨Int.emod_nonneg _ (by decide), Int.emod_lt_of_pos _ (by decide)⟩)

set_option maxRecDepth 100000 in
set_option maxHeartbeats 2000000 in
theorem ref_carry (xs : List Int) (ao : Option Addr) (g n cap : Nat) (w : World) (hn : xs.length = n) (hao : n = 0 ∨ ao = some ⟨g, 0, none⟩) (hg : g < w.heap.size ∨ n = 0) (hcell : ∀ j, j < n → w.cell? ⟨g, j, none⟩ = some (.int .i64 (xs.getD j 0))) (hx : ∀ j, 0 ≤ xs.getD j 0 ∧ xs.getD j 0 < 1099511627776) (hn2 : n ≤ 1000) (M : Nat) (hM : valD xs < 256 ^ M) (hM2 : M ≤ 1000) :
    Calls Try.prog 23 #[.slice ao n cap] w fun e w' => (∃ (d : List Int) (v : Value), allD d ∧ valD d = valD xs ∧ 18 ≤ d.length ∧ d.length ≤ max 18 (max n M) ∧ OwnI w' w.heap.size v d ∧ e = .returned v) ∧ Below w.heap.size w w' := by
  obtain ⟨i0, hi, hz0, hz1, hz2⟩ := info_parts infoI
  have hnil : OwnI w w.heap.size (.slice none 0 0) [] := World.ownsRow_nil w _ _ _
  go_enter Try.func23, Try.ntmps23
  go_wp2_with fail
  go_loopw [3, 4, 5] (fun v c i wr => ∃ (k : Nat) (d : List Int) (C : Int), i = .int .i64 k ∧ c = .int .i64 C ∧ d.length = k ∧ 0 ≤ C ∧ C ≤ 1099511627776 ∧ k ≤ max n M ∧ allD d ∧ valD d + 256 ^ k * C = valD (xs.take k) ∧ OwnI wr w.heap.size v d ∧ Below w.heap.size w wr) (fun _ c i _ => (n - (intOf i).toNat) * 2199023255552 + (intOf c).toNat)
  case atStart => exact ⟨0, [], 0, rfl, rfl, rfl, Int.le_refl 0, by decide, by omega, allD_nil, by simp [valD], hnil, Below.refl _ _⟩
  case round =>
    clear hnil
    obtain ⟨k, d, C, rfl, rfl, hd, hC0, hC1, hkn, hall, hval, hown, hbel⟩ := hrel
    by_cases hlt : k < n
    · obtain rfl : ao = some ⟨g, 0, none⟩ := by rcases hao with h | h; omega; exact h
      have hcl : wr.cell? ⟨g, k, none⟩ = some (.int .i64 (xs.getD k 0)) := (hbel.cell (p := ⟨g, k, none⟩) (by show g < w.heap.size; omega)).trans (hcell k hlt)
      have hx0 := (hx k).1
      have hx1 := (hx k).2
      have hown' : wr.ownsRow w.heap.size 3 1 u3 k (cellsI d) := by have := hown; unfold OwnI at this; rwa [hd] at this
      have HV : Hid (valD (d ++ [(C + xs.getD k 0) % 256]) + 256 ^ (k + 1) * ((C + xs.getD k 0) / 256) = valD (xs.take (k + 1))) := digit_next xs d k C hd hval (by omega)
      have HA : Hid (allD (d ++ [(C + xs.getD k 0) % 256])) := allD_snoc hall _
      clear hval hall hcell hx
      generalize xs.getD k 0 = X at *
      have hrem : (C + X).tmod 256 = (C + X) % 256 := Int.tmod_eq_emod_of_nonneg (by omega)
      have hquo : (C + X).tdiv 256 = (C + X) / 256 := Int.tdiv_eq_ediv_of_nonneg (by omega)
      have hdk : decide ((k : Int) < (n : Int)) = true := by simp; omega
      go_wp2_with (first | (at_builtin; refine wpList_append_lies _ rfl (.tmp 26) (.tmp 29) 42 rfl w.heap.size 3 i0 (.int .i64 0) 1 8 Try.underlying42 hi hz0 hz1 hz2 rfl (by decide) u3 k (cellsI d) rfl (hown'.alloc _) ⟨wr.heap.size, 0, none⟩ 1 1 (cellsI [(C + X) % 256]) rfl rfl (World.news_of_block (heap_alloc_new wr _)) (cellsI_one _) (by decide) (by unfold maxLen; omega) (by omega) (by have := hbel.size; simp; omega) _ rfl ?_))
      intro g2 cap2 w2 hown2 hgrow2 hat hlt2
      go_wp2
      go_roundw
      case rel =>
        refine ⟨k + 1, d ++ [(C + X) % 256], (C + X) / 256, by go_num, rfl, by simp [hd], by omega, by omega, by omega, HA.out, HV.out, ?_, ?_⟩
        · unfold OwnI
          rw [cellsI_append, show (d ++ [(C + X) % 256]).length = k + 1 from by simp [hd]]
          exact hown2
        · have hz := hbel.size
          exact (hbel.alloc (by omega) _).grown hgrow2 (by simp; omega) (fun j hj => (hown'.lt j hj).1)
      case measure => simp [intOf]; omega
    · by_cases hpos : 0 < C
      · have hk5 := room_end xs d k M C hall hval (by omega) hpos hM
        have hown' : wr.ownsRow w.heap.size 3 1 u3 k (cellsI d) := by have := hown; unfold OwnI at this; rwa [hd] at this
        have HV : Hid (valD (d ++ [C % 256]) + 256 ^ (k + 1) * (C / 256) = valD (xs.take (k + 1))) := digit_last xs d k C hd hval (by omega)
        have HA : Hid (allD (d ++ [C % 256])) := allD_snoc hall _
        clear hval hall hcell hx
        have hrem : C.tmod 256 = C % 256 := Int.tmod_eq_emod_of_nonneg (by omega)
        have hquo : C.tdiv 256 = C / 256 := Int.tdiv_eq_ediv_of_nonneg (by omega)
        have hdk : decide ((k : Int) < (n : Int)) = false := by simp; omega
        go_wp2_with (first | (at_builtin; refine wpList_append_lies _ rfl (.tmp 26) (.tmp 29) 42 rfl w.heap.size 3 i0 (.int .i64 0) 1 8 Try.underlying42 hi hz0 hz1 hz2 rfl (by decide) u3 k (cellsI d) rfl (hown'.alloc _) ⟨wr.heap.size, 0, none⟩ 1 1 (cellsI [C % 256]) rfl rfl (World.news_of_block (heap_alloc_new wr _)) (cellsI_one _) (by decide) (by unfold maxLen; omega) (by omega) (by have := hbel.size; simp; omega) _ rfl ?_))
        intro g2 cap2 w2 hown2 hgrow2 hat hlt2
        go_wp2
        go_roundw
        case rel =>
          refine ⟨k + 1, d ++ [C % 256], C / 256, by go_num, rfl, by simp [hd], by omega, by omega, by omega, HA.out, HV.out, ?_, ?_⟩
          · unfold OwnI
            rw [cellsI_append, show (d ++ [C % 256]).length = k + 1 from by simp [hd]]
            exact hown2
          · have hz := hbel.size
            exact (hbel.alloc (by omega) _).grown hgrow2 (by simp; omega) (fun j hj => (hown'.lt j hj).1)
        case measure => simp [intOf]; omega
      · obtain rfl : C = 0 := by omega
        have hdk : decide ((k : Int) < (n : Int)) = false := by simp; omega
        rw [Int.mul_zero, Int.add_zero, List.take_of_length_le (by omega)] at hval
        clear hcell hx
        obtain ⟨ao3, cap3, rfl⟩ := hown.shape
        go_wp2_with fail
        go_loopw [3] (fun v wr => ∃ (d : List Int) (ao3 : Option Addr) (cap3 : Nat), v = .slice ao3 d.length cap3 ∧ allD d ∧ valD d = valD xs ∧ d.length ≤ max 18 (max n M) ∧ OwnI wr w.heap.size (.slice ao3 d.length cap3) d ∧ Below w.heap.size w wr) (fun v _ => match v with | .slice _ m _ => 18 - m | _ => 0)
        case atStart => exact ⟨d, ao3, cap3, by rw [hd], hall, hval, by omega, hown, hbel⟩
        case round =>
          clear hown hbel hall hval hkn hd
          obtain ⟨d, ao3, cap3, rfl, hall, hval, hkn, hown, hbel⟩ := hrel
          have hown' : wr.ownsRow w.heap.size 3 1 (.slice ao3 d.length cap3) d.length (cellsI d) := hown
          by_cases h18 : d.length < 18
          · have HA : Hid (allD (d ++ [0])) := allD_append hall (allD_one ⟨by decide, by decide⟩)
            have HV : Hid (valD (d ++ [0]) = valD xs) := by show _ = _; rw [← hval]; exact valD_pad d 1
            clear hall hval
            generalize hm : d.length = m at *
            have h18' : (m : Int) < 18 := by omega
            go_wp2_with (first | (at_builtin; refine wpList_append_lies _ rfl (.tmp 36) (.tmp 37) 42 rfl w.heap.size 3 i0 (.int .i64 0) 1 8 Try.underlying42 hi hz0 hz1 hz2 rfl (by decide) (.slice ao3 m cap3) m (cellsI d) rfl (hown'.alloc _) ⟨wr.heap.size, 0, none⟩ 1 1 (cellsI [0]) rfl rfl (World.news_of_block (heap_alloc_new wr _)) (cellsI_one _) (by decide) (by unfold maxLen; omega) (by omega) (by have := hbel.size; simp; omega) _ rfl ?_))
            intro g2 cap2 w2 hown2 hgrow2 hat hlt2
            go_wp2
            go_roundw
            case rel =>
              have hl : (d ++ [0]).length = m + 1 := by simp [hm]
              refine ⟨d ++ [0], some ⟨g2, 0, none⟩, cap2, by rw [hl], HA.out, HV.out, by omega, ?_, ?_⟩
              · unfold OwnI
                rw [cellsI_append, hl]
                exact hown2
              · have hz := hbel.size
                exact (hbel.alloc (by omega) _).grown hgrow2 (by simp; omega) (fun j hj => (hown'.lt j hj).1)
            case measure => simp; omega
          · have h18' : ¬ ((d.length : Int) < 18) := by omega
            go_wp2
            go_ret
            exact ⟨⟨d, hall, hval, by omega, hkn, _, hown, rfl⟩, hbel⟩

end Go.Proofs.Ytjccdfnhcifgiaa
