/-
  The contract of the reference's fold.
-/
import Derived.Test.YtjccdfnhcifgiaaRefM
namespace Go.Proofs.Ytjccdfnhcifgiaa
open Go.RowKit
set_option linter.unusedVariables false
set_option maxRecDepth 100000
set_option linter.unusedSimpArgs false

theorem madeI (n : Nat) : (madeCells #[.int .i64 0] n).toList = cellsI (List.replicate n 0) := by
  rw [toList_madeCells_one]
  simp [cellsI]
theorem valD_add (l : List Int) (j : Nat) (y : Int) (hj : j < l.length) : valD (l.set j (l.getD j 0 + y)) = valD l + 256 ^ j * y := by
  rw [valD_set _ l j hj, Int.add_comm (l.getD j 0), Int.add_sub_cancel]
theorem getD_set (l : List Int) (j i : Nat) (v : Int) (n : Int) (hn : 0 < n) (h : ∀ i, 0 ≤ l.getD i 0 ∧ l.getD i 0 < n) (hv : 0 ≤ v ∧ v < n) : 0 ≤ (l.set j v).getD i 0 ∧ (l.set j v).getD i 0 < n := by
  rw [List.getD_eq_getElem?_getD, List.getElem?_set]
  split
  · split
    · exact hv
    · exact ⟨Int.le_refl 0, hn⟩
  · rw [← List.getD_eq_getElem?_getD]; exact h i

theorem OwnI.capLe {w : World} {base g n cap : Nat} {l : List Int} (h : OwnI w base (.slice (some ⟨g, 0, none⟩) n cap) l) (hn : n = l.length) : n ≤ cap := by
  subst hn
  rcases h.2 with ⟨hv, _⟩ | ⟨g', cap', cur, hv, hb, hh, hnc, _⟩
  · cases hv
  · simp only [Value.slice.injEq, Option.some.injEq, Addr.mk.injEq, and_true, true_and] at hv
    obtain ⟨rfl, rfl⟩ := hv
    exact hnc

set_option maxRecDepth 100000 in
set_option maxHeartbeats 4000000 in
theorem ref_fold (V : Int) (xs : List Int) (g n cap : Nat) (w : World) (hn : xs.length = n) (hg : g < w.heap.size) (hcell : ∀ j, j < n → w.cell? ⟨g, j, none⟩ = some (.int .i64 (xs.getD j 0))) (hx : ∀ j, 0 ≤ xs.getD j 0 ∧ xs.getD j 0 < 1099511627776) (hn1 : 18 ≤ n) (hn2 : n ≤ 34) (hV : valD xs = V) (hV0 : 0 ≤ V) (hV1 : V < 256 ^ 34) :
    Calls Try.prog 24 #[.slice (some ⟨g, 0, none⟩) n cap] w fun e w' => (∃ (d : List Int) (g' cap' : Nat), d.length = 18 ∧ allD d ∧ valD d < 1361129467683753853853498429727072845824 ∧ valD d % p130 = V % p130 ∧ OwnI w' w.heap.size (.slice (some ⟨g', 0, none⟩) 18 cap') d ∧ e = .returned (.slice (some ⟨g', 0, none⟩) 18 cap')) ∧ Below w.heap.size w w' := by
  obtain ⟨i0, hi, hz0, hz1, hz2⟩ := info_parts infoI
  go_enter Try.func24, Try.ntmps24
  go_wp2_with fail
  go_loopw [0] (fun v wr => ∃ (n g cap : Nat) (xs : List Int), v = .slice (some ⟨g, 0, none⟩) n cap ∧ xs.length = n ∧ g < wr.heap.size ∧ (∀ j, j < n → wr.cell? ⟨g, j, none⟩ = some (.int .i64 (xs.getD j 0))) ∧ (∀ j, 0 ≤ xs.getD j 0 ∧ xs.getD j 0 < 1099511627776) ∧ 18 ≤ n ∧ n ≤ 34 ∧ 0 ≤ valD xs ∧ valD xs < 256 ^ 34 ∧ valD xs % p130 = V % p130 ∧ Below w.heap.size w wr) (fun v wr => rowV wr v)
  case atStart => exact ⟨n, g, cap, xs, rfl, hn, hg, hcell, hx, hn1, hn2, by omega, by omega, by rw [hV], Below.refl _ _⟩
  case round =>
    clear hcell hx hg hV hV0 hV1 hn hn1 hn2
    obtain ⟨n, g, cap, xs, rfl, hn, hg, hcell, hx, hn1, hn2, hv0, hv1, hvr, hbel⟩ := hrel
    have hms := rowV_is (cap := cap) hn hcell
    have HMS : Hid (rowV wr (.slice (some ⟨g, 0, none⟩) n cap) = (valD xs).toNat) := hms
    clear hms
    go_wp2_with fail
    refine (ref_carry xs (some ⟨g, 0, none⟩) g n cap wr hn (Or.inr rfl) (Or.inl hg) hcell hx (by omega) 34 hv1 (by decide)).mono ?_
    rintro e w1 ⟨⟨d, v1, hall, hvd, hd18, hdl, hown1, rfl⟩, b1⟩
    obtain ⟨g1, cap1, rfl, hg1, hg1'⟩ := hown1.form (by omega)
    have hL34 : d.length ≤ 34 := by omega
    have hcd : ∀ j, j < d.length → w1.cell? ⟨g1, j, none⟩ = some (.int .i64 (d.getD j 0)) := fun j hj => hown1.cell rfl j hj
    have hbel1 : Below w.heap.size w w1 := hbel.trans (b1.mono hbel.size)
    have HSZ : Hid (w.heap.size ≤ w1.heap.size) := hbel1.size
    rw [hvd.symm] at hv0 hv1 hvr HMS
    clear hcell hx hn hn1 hn2 hg hbel b1 hown1 hvd hdl hg1
    generalize hLL : d.length = L at *
    go_wp2_with (first | (at_make; refine wpList_make_full _ rfl _ _ 42 rfl w1.heap.size 3 i0 (.int .i64 0) 1 Try.underlying42 hi hz0 hz1 .i64 .i64 L L L rfl rfl rfl rfl (by rw [hz2]; omega) (by unfold maxLen; omega) (Nat.le_refl _) ?_))
    intro w2 hown hgrow
    rw [madeI] at hown
    have b2 : Below w1.heap.size w1 w2 := (Below.refl _ w1).grown hgrow (Nat.le_refl _) (by intro k hk; cases hk)
    have hcd2 : ∀ j, j < L → w2.cell? ⟨g1, j, none⟩ = some (.int .i64 (d.getD j 0)) := fun j hj => (b2.cell (p := ⟨g1, j, none⟩) hg1').trans (hcd j hj)
    have hbel2 : Below w.heap.size w w2 := hbel1.trans (b2.mono HSZ.out)
    have hownI : OwnI w2 w1.heap.size (.slice (some ⟨w1.heap.size, 0, none⟩) L L) (List.replicate L 0) := by
      unfold OwnI
      rw [List.length_replicate]
      exact hown
    have hsz2 : w1.heap.size < w2.heap.size := by
      obtain ⟨_, _, hf, _, hlt⟩ := hownI.form (by rw [List.length_replicate]; omega)
      simp only [Value.slice.injEq, Option.some.injEq, Addr.mk.injEq, and_true] at hf
      omega
    clear hcd hown hgrow b2 hbel1
    have hw2s : ∀ (wq : World), w2.heap.size ≤ wq.heap.size → w1.heap.size < wq.heap.size := fun wq h => by omega
    generalize hB : w1.heap.size = B at *
    clear hB
    have hgB : g1 < B := hg1'
    go_wp2_with fail
    go_loopw [3, 5] (fun h i wq => ∃ (k : Nat) (l : List Int), k ≤ L ∧ i = .int .i64 k ∧ h = .bool (foldH d k) ∧ l.length = L ∧ (∀ j, 0 ≤ l.getD j 0 ∧ l.getD j 0 < 3000 * (k : Int) + 1) ∧ valD l = foldV d k ∧ OwnI wq B (.slice (some ⟨B, 0, none⟩) L L) l ∧ (∀ j, j < L → wq.cell? ⟨g1, j, none⟩ = some (.int .i64 (d.getD j 0))) ∧ w2.heap.size ≤ wq.heap.size ∧ Below w.heap.size w wq) (fun _ i _ => L - (intOf i).toNat)
    case atStart => exact ⟨0, List.replicate L 0, Nat.zero_le _, rfl, by rw [foldH_zero d 0 (by omega)], by simp, fun j => by simp [List.getD_eq_getElem?_getD, List.getElem?_replicate]; split <;> simp, by rw [foldV_zero, valD_zeros], hownI, hcd2, Nat.le_refl _, hbel2⟩
    case round =>
      clear hownI hcd2 hbel2
      obtain ⟨k, l, hk, rfl, rfl, hl, hlb, hlv, hown, hcd, hsz, hbel⟩ := hrel
      have hcx0 : wr.cell? ⟨g1, k, none⟩ = some (.int .i64 (d.getD k 0)) ∨ ¬ k < L := by by_cases h : k < L; exact Or.inl (hcd k h); exact Or.inr h
      have hGB : g1 ≠ B := by omega
      by_cases hlt : k < L
      · replace hcx0 := hcd k hlt
        have hX := allD_getD hall k
        have hdk : decide ((k : Int) < (L : Int)) = true := by simp; omega
        by_cases h16 : k < 16
        · have hc := hown.cell hl.symm k (by omega)
          have hz := hown.frozen hl.symm k
          have hlk := hlb k
          have HN : Hid (OwnI (wr.setCell ⟨B, k, none⟩ (.int .i64 (l.getD k 0 + d.getD k 0))) B (.slice (some ⟨B, 0, none⟩) L L) (l.set k (l.getD k 0 + d.getD k 0))) := hown.store hl.symm k _
          have HV : Hid (valD (l.set k (l.getD k 0 + d.getD k 0)) = foldV d (k + 1)) := by show _ = _; rw [valD_add l k _ (by omega), hlv, foldV_low d k h16 (by omega)]
          have HB : Hid (∀ j, 0 ≤ (l.set k (l.getD k 0 + d.getD k 0)).getD j 0 ∧ (l.set k (l.getD k 0 + d.getD k 0)).getD j 0 < 3000 * ((k + 1 : Nat) : Int) + 1) := fun j => getD_set l k j _ _ (by omega) (fun i => ⟨(hlb i).1, by have := (hlb i).2; omega⟩) (by omega)
          have HL : Hid ((l.set k (l.getD k 0 + d.getD k 0)).length = L) := by show _ = _; rw [List.length_set, hl]
          have HC : Hid (∀ j, j < L → (wr.setCell ⟨B, k, none⟩ (.int .i64 (l.getD k 0 + d.getD k 0))).cell? ⟨g1, j, none⟩ = some (.int .i64 (d.getD j 0))) := fun j hj => (World.cell?_setCell_other _ _ _ _ (fun e => by injection e with e1; omega)).trans (hcd j hj)
          have HF : Hid (foldH d k = foldH d (k + 1)) := by show _ = _; rw [foldH_zero d k (by omega), foldH_zero d (k + 1) (by omega)]
          have x0 := hX.1
          have x1 := hX.2
          have y0 := hlk.1
          have y1 : l.getD k 0 < 1099511627776 := by omega
          have hi16 : (k : Int) < 16 := by omega
          clear hX hlk hlb hlv hcd hown
          generalize l.set k (l.getD k 0 + d.getD k 0) = l' at *
          generalize l.getD k 0 = Y at *
          generalize d.getD k 0 = X at *
          generalize foldH d k = hh at *
          go_wp2
          go_region
          go_wp2
          go_roundw
          case rel => exact ⟨k + 1, l', by omega, by go_num, by rw [HF.out], HL.out, HB.out, HV.out, HN.out, HC.out, by simpa [World.setCell] using hsz, (hbel.setCell (by show w.heap.size ≤ B; exact HSZ.out) _).drew⟩
          case measure => simp [intOf]; omega
        · by_cases hk16 : k = 16
          · subst hk16
            have hc := hown.cell hl.symm 16 (by omega)
            have hz := hown.frozen hl.symm 16
            have hc0 := hown.cell hl.symm 0 (by omega)
            have hz0' := hown.frozen hl.symm 0
            have hlk := hlb 16
            have hlk0 := hlb 0
            have hX1 := allD_getD hall 17
            have hP := foldP_bd (allD_getD hall) 16
            have hcx1 := hcd 17 (by omega)
            have ep : foldP d 16 = d.getD 16 0 / 4 + d.getD 17 0 % 4 * 64 := rfl
            rw [ep] at hP
            have e0 : (l.set 16 (l.getD 16 0 + d.getD 16 0 % 4)).getD 0 0 = l.getD 0 0 := by rw [List.getD_eq_getElem?_getD, List.getElem?_set_ne (by decide), ← List.getD_eq_getElem?_getD]
            have HN : Hid (OwnI (((wr.setCell ⟨B, 16, none⟩ (.int .i64 (l.getD 16 0 + d.getD 16 0 % 4))).drew).setCell ⟨B, 0, none⟩ (.int .i64 (l.getD 0 0 + 5 * (d.getD 16 0 / 4 + d.getD 17 0 % 4 * 64)))) B (.slice (some ⟨B, 0, none⟩) L L) ((l.set 16 (l.getD 16 0 + d.getD 16 0 % 4)).set 0 (l.getD 0 0 + 5 * (d.getD 16 0 / 4 + d.getD 17 0 % 4 * 64)))) := by
              have h1 := hown.store hl.symm 16 (l.getD 16 0 + d.getD 16 0 % 4)
              have h2 : OwnI ((wr.setCell ⟨B, 16, none⟩ (.int .i64 (l.getD 16 0 + d.getD 16 0 % 4))).drew) B (.slice (some ⟨B, 0, none⟩) L L) (l.set 16 (l.getD 16 0 + d.getD 16 0 % 4)) := h1
              exact h2.store (by rw [List.length_set, hl]) 0 _
            have HV : Hid (valD ((l.set 16 (l.getD 16 0 + d.getD 16 0 % 4)).set 0 (l.getD 0 0 + 5 * (d.getD 16 0 / 4 + d.getD 17 0 % 4 * 64))) = foldV d (16 + 1)) := by
              show _ = _
              have h1 := valD_add (l.set 16 (l.getD 16 0 + d.getD 16 0 % 4)) 0 (5 * (d.getD 16 0 / 4 + d.getD 17 0 % 4 * 64)) (by rw [List.length_set]; omega)
              rw [e0] at h1
              rw [h1, valD_add l 16 _ (by omega), hlv, foldV_high d 16 (by omega) (by omega), if_pos rfl, ep]
            have HB : Hid (∀ j, 0 ≤ ((l.set 16 (l.getD 16 0 + d.getD 16 0 % 4)).set 0 (l.getD 0 0 + 5 * (d.getD 16 0 / 4 + d.getD 17 0 % 4 * 64))).getD j 0 ∧ ((l.set 16 (l.getD 16 0 + d.getD 16 0 % 4)).set 0 (l.getD 0 0 + 5 * (d.getD 16 0 / 4 + d.getD 17 0 % 4 * 64))).getD j 0 < 3000 * ((16 + 1 : Nat) : Int) + 1) := fun j => getD_set _ 0 j _ _ (by omega) (fun i => getD_set l 16 i _ _ (by omega) (fun i => ⟨(hlb i).1, by have := (hlb i).2; omega⟩) (by omega)) (by omega)
            have HL : Hid (((l.set 16 (l.getD 16 0 + d.getD 16 0 % 4)).set 0 (l.getD 0 0 + 5 * (d.getD 16 0 / 4 + d.getD 17 0 % 4 * 64))).length = L) := by show _ = _; rw [List.length_set, List.length_set, hl]
            have HC : Hid (∀ j, j < L → (((wr.setCell ⟨B, 16, none⟩ (.int .i64 (l.getD 16 0 + d.getD 16 0 % 4))).drew).setCell ⟨B, 0, none⟩ (.int .i64 (l.getD 0 0 + 5 * (d.getD 16 0 / 4 + d.getD 17 0 % 4 * 64)))).cell? ⟨g1, j, none⟩ = some (.int .i64 (d.getD j 0))) := fun j hj => (World.cell?_setCell_other _ _ _ _ (fun e => by injection e with e1; omega)).trans ((World.cell?_setCell_other _ _ _ _ (fun e => by injection e with e1; omega)).trans (hcd j hj))
            have HF : Hid (foldH d (16 + 1) = (foldH d 16 || decide (0 < (d.getD 16 0 / 4 + d.getD 17 0 % 4 * 64)))) := by rw [← ep]; exact foldH_next hall 16 (by omega) (by omega)
            have hfz : foldH d 16 = false := foldH_zero d 16 (by omega)
            have hq : (d.getD 16 0).tdiv 4 = d.getD 16 0 / 4 := Int.tdiv_eq_ediv_of_nonneg hX.1
            have hr0 : (d.getD 16 0).tmod 4 = d.getD 16 0 % 4 := Int.tmod_eq_emod_of_nonneg hX.1
            have hr : (d.getD 17 0).tmod 4 = d.getD 17 0 % 4 := Int.tmod_eq_emod_of_nonneg hX1.1
            have x0 := hX.1
            have x1 := hX.2
            have x2 := hX1.1
            have x3 := hX1.2
            have y0 := hlk.1
            have y1 : l.getD 16 0 < 1099511627776 := by omega
            have y2 := hlk0.1
            have y3 : l.getD 0 0 < 1099511627776 := by omega
            have hL17 : (17 : Int) < (L : Int) := by omega
            have hL16 : (16 : Int) < (L : Int) := by omega
            have hL0 : (0 : Int) < (L : Int) := by omega
            clear hX hX1 hlk hlk0 hlb hlv hcd hown hP ep e0
            rw [hfz] at HF ⊢
            generalize ((l.set 16 (l.getD 16 0 + d.getD 16 0 % 4)).set 0 (l.getD 0 0 + 5 * (d.getD 16 0 / 4 + d.getD 17 0 % 4 * 64))) = l' at *
            generalize l.getD 0 0 = Y at *
            generalize l.getD 16 0 = Z at *
            generalize d.getD 16 0 = X at *
            generalize d.getD 17 0 = X2 at *
            go_wp2
            go_region
            go_wp2
            go_roundw
            case rel => exact ⟨16 + 1, l', by omega, by go_num, by rw [HF.out]; simp, HL.out, HB.out, HV.out, HN.out, HC.out, by simpa [World.setCell] using hsz, ((hbel.setCell (by show w.heap.size ≤ B; exact HSZ.out) _).drew).setCell (by show w.heap.size ≤ B; exact HSZ.out) _⟩
            case measure => simp [intOf]; omega
          · by_cases h1 : k + 1 < L
            · obtain ⟨m, hm⟩ : ∃ m, m + 16 = k := ⟨k - 16, by omega⟩
              have hc := hown.cell hl.symm m (by omega)
              have hz := hown.frozen hl.symm m
              have hlk := hlb m
              have hX1 := allD_getD hall (k + 1)
              have hP := foldP_bd (allD_getD hall) k
              have hcx1 := hcd (k + 1) h1
              have ep : foldP d k = d.getD k 0 / 4 + d.getD (k + 1) 0 % 4 * 64 := rfl
              rw [ep] at hP
              have HN : Hid (OwnI (wr.setCell ⟨B, m, none⟩ (.int .i64 (l.getD m 0 + 5 * (d.getD k 0 / 4 + d.getD (k + 1) 0 % 4 * 64)))) B (.slice (some ⟨B, 0, none⟩) L L) (l.set m (l.getD m 0 + 5 * (d.getD k 0 / 4 + d.getD (k + 1) 0 % 4 * 64)))) := hown.store hl.symm m _
              have HV : Hid (valD (l.set m (l.getD m 0 + 5 * (d.getD k 0 / 4 + d.getD (k + 1) 0 % 4 * 64))) = foldV d (k + 1)) := by show _ = _; rw [valD_add l m _ (by omega), hlv, foldV_high d k (by omega) (by omega), if_neg hk16, ep, show k - 16 = m from by omega, Int.add_zero]
              have HB : Hid (∀ j, 0 ≤ (l.set m (l.getD m 0 + 5 * (d.getD k 0 / 4 + d.getD (k + 1) 0 % 4 * 64))).getD j 0 ∧ (l.set m (l.getD m 0 + 5 * (d.getD k 0 / 4 + d.getD (k + 1) 0 % 4 * 64))).getD j 0 < 3000 * ((k + 1 : Nat) : Int) + 1) := fun j => getD_set l m j _ _ (by omega) (fun i => ⟨(hlb i).1, by have := (hlb i).2; omega⟩) (by omega)
              have HL : Hid ((l.set m (l.getD m 0 + 5 * (d.getD k 0 / 4 + d.getD (k + 1) 0 % 4 * 64))).length = L) := by show _ = _; rw [List.length_set, hl]
              have HC : Hid (∀ j, j < L → (wr.setCell ⟨B, m, none⟩ (.int .i64 (l.getD m 0 + 5 * (d.getD k 0 / 4 + d.getD (k + 1) 0 % 4 * 64)))).cell? ⟨g1, j, none⟩ = some (.int .i64 (d.getD j 0))) := fun j hj => (World.cell?_setCell_other _ _ _ _ (fun e => by injection e with e1; omega)).trans (hcd j hj)
              have HF : Hid (foldH d (k + 1) = (foldH d k || decide (0 < (d.getD k 0 / 4 + d.getD (k + 1) 0 % 4 * 64)))) := by rw [← ep]; exact foldH_next hall k (by omega) (by omega)
              have hq : (d.getD k 0).tdiv 4 = d.getD k 0 / 4 := Int.tdiv_eq_ediv_of_nonneg hX.1
              have hr : (d.getD (k + 1) 0).tmod 4 = d.getD (k + 1) 0 % 4 := Int.tmod_eq_emod_of_nonneg hX1.1
              have x0 := hX.1
              have x1 := hX.2
              have x2 := hX1.1
              have x3 := hX1.2
              have y0 := hlk.1
              have y1 : l.getD m 0 < 1099511627776 := by omega
              have ht : ((k : Int) - 16).toNat = m := by omega
              have ht0 : 0 ≤ (k : Int) - 16 := by omega
              have ht1 : (k : Int) - 16 < (L : Int) := by omega
              have hi16 : ¬ ((k : Int) < 16) := by omega
              have he16 : ((k : Int) == 16) = false := by simp; omega
              have he16' : ¬ ((k : Int) = 16) := by omega
              clear hX hX1 hlk hlb hlv hcd hown hP ep
              generalize l.set m (l.getD m 0 + 5 * (d.getD k 0 / 4 + d.getD (k + 1) 0 % 4 * 64)) = l' at *
              generalize l.getD m 0 = Y at *
              generalize d.getD k 0 = X at *
              generalize d.getD (k + 1) 0 = X2 at *
              have h1' : (k : Int) + 1 < (L : Int) := by omega
              have ht2 : ((k : Int) + 1).toNat = k + 1 := by omega
              generalize foldH d k = hh at *
              cases hh
              · go_wp2
                go_roundw
                case rel => exact ⟨k + 1, l', by omega, by go_num, by rw [HF.out]; simp, HL.out, HB.out, HV.out, HN.out, HC.out, by simpa [World.setCell] using hsz, hbel.setCell (by show w.heap.size ≤ B; exact HSZ.out) _⟩
                case measure => simp [intOf]; omega
              · go_wp2
                go_roundw
                case rel => exact ⟨k + 1, l', by omega, by go_num, by rw [HF.out]; simp, HL.out, HB.out, HV.out, HN.out, HC.out, by simpa [World.setCell] using hsz, hbel.setCell (by show w.heap.size ≤ B; exact HSZ.out) _⟩
                case measure => simp [intOf]; omega
            · obtain ⟨m, hm⟩ : ∃ m, m + 16 = k := ⟨k - 16, by omega⟩
              have hc := hown.cell hl.symm m (by omega)
              have hz := hown.frozen hl.symm m
              have hlk := hlb m
              have hX1 := allD_getD hall (k + 1)
              have hP := foldP_bd (allD_getD hall) k
              have ep : foldP d k = d.getD k 0 / 4 := by
                unfold foldP
                rw [show d.getD (k + 1) 0 = 0 from by rw [List.getD_eq_getElem?_getD, List.getElem?_eq_none (by omega)]; rfl]
                omega
              rw [ep] at hP
              have HN : Hid (OwnI (wr.setCell ⟨B, m, none⟩ (.int .i64 (l.getD m 0 + 5 * (d.getD k 0 / 4)))) B (.slice (some ⟨B, 0, none⟩) L L) (l.set m (l.getD m 0 + 5 * (d.getD k 0 / 4)))) := hown.store hl.symm m _
              have HV : Hid (valD (l.set m (l.getD m 0 + 5 * (d.getD k 0 / 4))) = foldV d (k + 1)) := by show _ = _; rw [valD_add l m _ (by omega), hlv, foldV_high d k (by omega) (by omega), if_neg hk16, ep, show k - 16 = m from by omega, Int.add_zero]
              have HB : Hid (∀ j, 0 ≤ (l.set m (l.getD m 0 + 5 * (d.getD k 0 / 4))).getD j 0 ∧ (l.set m (l.getD m 0 + 5 * (d.getD k 0 / 4))).getD j 0 < 3000 * ((k + 1 : Nat) : Int) + 1) := fun j => getD_set l m j _ _ (by omega) (fun i => ⟨(hlb i).1, by have := (hlb i).2; omega⟩) (by omega)
              have HL : Hid ((l.set m (l.getD m 0 + 5 * (d.getD k 0 / 4))).length = L) := by show _ = _; rw [List.length_set, hl]
              have HC : Hid (∀ j, j < L → (wr.setCell ⟨B, m, none⟩ (.int .i64 (l.getD m 0 + 5 * (d.getD k 0 / 4)))).cell? ⟨g1, j, none⟩ = some (.int .i64 (d.getD j 0))) := fun j hj => (World.cell?_setCell_other _ _ _ _ (fun e => by injection e with e1; omega)).trans (hcd j hj)
              have HF : Hid (foldH d (k + 1) = (foldH d k || decide (0 < (d.getD k 0 / 4)))) := by rw [← ep]; exact foldH_next hall k (by omega) (by omega)
              have hq : (d.getD k 0).tdiv 4 = d.getD k 0 / 4 := Int.tdiv_eq_ediv_of_nonneg hX.1
              have hr : (d.getD (k + 1) 0).tmod 4 = d.getD (k + 1) 0 % 4 := Int.tmod_eq_emod_of_nonneg hX1.1
              have x0 := hX.1
              have x1 := hX.2
              have x2 := hX1.1
              have x3 := hX1.2
              have y0 := hlk.1
              have y1 : l.getD m 0 < 1099511627776 := by omega
              have ht : ((k : Int) - 16).toNat = m := by omega
              have ht0 : 0 ≤ (k : Int) - 16 := by omega
              have ht1 : (k : Int) - 16 < (L : Int) := by omega
              have hi16 : ¬ ((k : Int) < 16) := by omega
              have he16 : ((k : Int) == 16) = false := by simp; omega
              have he16' : ¬ ((k : Int) = 16) := by omega
              clear hX hX1 hlk hlb hlv hcd hown hP ep
              generalize l.set m (l.getD m 0 + 5 * (d.getD k 0 / 4)) = l' at *
              generalize l.getD m 0 = Y at *
              generalize d.getD k 0 = X at *
              generalize d.getD (k + 1) 0 = X2 at *
              have h1' : ¬ ((k : Int) + 1 < (L : Int)) := by omega
              generalize foldH d k = hh at *
              cases hh
              · go_wp2
                go_roundw
                case rel => exact ⟨k + 1, l', by omega, by go_num, by rw [HF.out]; simp, HL.out, HB.out, HV.out, HN.out, HC.out, by simpa [World.setCell] using hsz, hbel.setCell (by show w.heap.size ≤ B; exact HSZ.out) _⟩
                case measure => simp [intOf]; omega
              · go_wp2
                go_roundw
                case rel => exact ⟨k + 1, l', by omega, by go_num, by rw [HF.out]; simp, HL.out, HB.out, HV.out, HN.out, HC.out, by simpa [World.setCell] using hsz, hbel.setCell (by show w.heap.size ≤ B; exact HSZ.out) _⟩
                case measure => simp [intOf]; omega
      · obtain rfl : k = L := by omega
        clear hcx0 hcd
        obtain ⟨hsv, hlo, hhi⟩ := split_of hall (by omega)
        have hve := foldV_end d (by omega)
        have hfe := foldH_end d
        rw [hLL] at hve hfe
        rw [hve] at hlv
        rw [hfe]
        clear hve hfe
        have hcl : ∀ j, j < k → wr.cell? ⟨B, j, none⟩ = some (.int .i64 (l.getD j 0)) := fun j hj => hown.cell hl.symm j (by omega)
        have hlb2 : ∀ j, 0 ≤ l.getD j 0 ∧ l.getD j 0 < 1099511627776 := fun j => ⟨(hlb j).1, by have := (hlb j).2; omega⟩
        have hBs : B < wr.heap.size := by omega
        have hlv0 : 0 ≤ valD l := by omega
        have hlv1 : valD l < 256 ^ 34 := by omega
        have HRE : Hid (valD l % p130 = V % p130) := by
          show _ = _
          rw [hlv, fold_rest, ← hsv, hvr]
        have hdk : decide ((k : Int) < (k : Int)) = false := by simp
        by_cases hpos : 0 < hi130 d
        · rw [decide_eq_true hpos]
          have hms2 := rowV_is (cap := k) hl hcl
          have HMS2 : Hid (rowV wr (.slice (some ⟨B, 0, none⟩) k k) = (valD l).toNat) := hms2
          have HLT : Hid ((valD l).toNat < (valD d).toNat) := by
            show _ < _
            omega
          clear hms2
          go_wp2
          go_roundw
          case rel => exact ⟨k, B, k, l, rfl, hl, hBs, hcl, hlb2, hd18, hL34, hlv0, hlv1, HRE.out, hbel⟩
          case measure =>
            rw [HMS.out, HMS2.out]
            exact HLT.out
        · rw [decide_eq_false hpos]
          have hh0 : hi130 d = 0 := by omega
          have hlt130 : valD l < 1361129467683753853853498429727072845824 := by omega
          go_wp2_with fail
          refine (ref_carry l (some ⟨B, 0, none⟩) B k k wr hl (Or.inr rfl) (Or.inl hBs) hcl hlb2 (by omega) 34 hlv1 (by decide)).mono ?_
          rintro e w3 ⟨⟨d3, v3, hall3, hvd3, hd183, hdl3, hown3, rfl⟩, b3⟩
          obtain ⟨g3, cap3, rfl, hg3, hg3'⟩ := hown3.form (by omega)
          have HC3 : Hid (OwnI w3 wr.heap.size (.slice (some ⟨g3, 0, none⟩) 18 cap3) (d3.take 18)) := hown3.cut 18 rfl hd183
          have hcap := hown3.capLe rfl
          have hcap' : (18 : Int) ≤ (cap3 : Int) := by omega
          have hcap2 : 18 ≤ cap3 := by omega
          go_wp2
          go_ret
          refine ⟨⟨d3.take 18, g3, cap3, by rw [List.length_take]; omega, fun x hx => hall3 x (List.mem_of_mem_take hx), ?_, ?_, (OwnI.base HC3.out hbel.size), rfl⟩, hbel.trans (b3.mono hbel.size)⟩
          · rw [valD_drop hall3 18 hd183 (by rw [hvd3, show (256 : Int) ^ 18 = 22300745198530623141535718272648361505980416 from by decide]; omega), hvd3]; exact hlt130
          · rw [valD_drop hall3 18 hd183 (by rw [hvd3, show (256 : Int) ^ 18 = 22300745198530623141535718272648361505980416 from by decide]; omega), hvd3]; exact HRE.out

end Go.Proofs.Ytjccdfnhcifgiaa
