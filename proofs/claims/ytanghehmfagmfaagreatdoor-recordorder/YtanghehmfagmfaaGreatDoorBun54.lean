/-
  Parts of this proof, one behind the other: Rec12.
-/
import Derived.Test.YtanghehmfagmfaaGreatDoorBun53
import Derived.Test.YtanghehmfagmfaaGreatDoorBun40
import Derived.Test.YtanghehmfagmfaaGreatDoorBun41
import Derived.Deep.CutRange
import Derived.BigRegion

/-
  Laws of chapter 13 over what package record tells: RecordOrder.
-/
namespace Go.Proofs.YtanghehmfagmfaaGreatDoor
open Go.RowKit
set_option linter.unusedVariables false
set_option maxRecDepth 100000
set_option linter.unusedSimpArgs false

theorem tmodI (x n : Int) (hn : 0 < n) (hn2 : n ≤ 1000) : IntKind.i64.wrap (x.tmod n + n) = x.tmod n + n := by
  have h1 := Int.tmod_lt_of_pos x hn
  have h2 := Int.lt_tmod_of_pos x hn
  rw [IntKind.wrap_i64]
  omega
set_option maxRecDepth 100000 in
set_option maxHeartbeats 4000000 in
theorem recordOrder_of (K : RecordKeeps) (key : ByteArray) (n : Int) (oa : Option Addr) (m c : Nat) (C : Nat → Int) (w : World) (hkey : key.size ≤ 9223372036854775807) (hn : -9223372036854775808 ≤ n ∧ n ≤ 9223372036854775807) (hm : m ≤ maxLen) (hs : IntsAt w oa m C) (hC : ∀ i, i < m → -9223372036854775808 ≤ C i ∧ C i ≤ 9223372036854775807) :
    Calls Tryz.prog 5 #[.string key, .int .i64 n, .slice oa m c] w fun e w' => e = .returned (.bool true) ∧ Below w.heap.size w w' := by
  have PA : Hid _ := alive13_of K
  by_cases c0 : n < 0
  · have d0 : decide (n < 0) = true := decide_eq_true c0
    go_enter Tryz.func5, Tryz.ntmps5
    go_wp2_with fail
    with_reducible refine (PA.out _).mono ?_
    rintro e w1 ⟨rfl, b⟩
    go_wp2
    go_ret
    exact ⟨rfl, b⟩
  have d0 : decide (n < 0) = false := decide_eq_false c0
  by_cases c1 : 40 < n
  · have d1 : decide (40 < n) = true := decide_eq_true c1
    go_enter Tryz.func5, Tryz.ntmps5
    go_wp2_with fail
    with_reducible refine (PA.out _).mono ?_
    rintro e w1 ⟨rfl, b⟩
    go_wp2
    go_ret
    exact ⟨rfl, b⟩
  have d1 : decide (40 < n) = false := decide_eq_false c1
  by_cases c2 : 60 < (m : Int)
  · have d2 : decide (60 < (m : Int)) = true := decide_eq_true c2
    go_enter Tryz.func5, Tryz.ntmps5
    go_wp2_with fail
    with_reducible refine (PA.out _).mono ?_
    rintro e w1 ⟨rfl, b⟩
    go_wp2
    go_ret
    exact ⟨rfl, b⟩
  have d2 : decide (60 < (m : Int)) = false := decide_eq_false c2
  obtain ⟨N, rfl⟩ : ∃ N : Nat, n = (N : Int) := ⟨n.toNat, by omega⟩
  obtain ⟨i0, hi0, hz0, hz1, hz2⟩ := info_parts infoT
  have F1 : Hid _ := fun w => law5_fill32 key w hkey
  have hk : (fillS key 32).size = 32 := fillS_size _ _
  generalize fillS key 32 = KK at *
  have P1 : Hid _ := fun w1 l (h : Here w l w1) => Here.newOut K h KK hk
  have P2 : Hid _ := fun w1 l (h : Here w l w1) => Here.newIn K h KK hk
  have S0 : Hid (IntsAt w oa m C) := hs
  have HC : Hid _ := hC
  clear hs hC hn
  go_enter Tryz.func5, Tryz.ntmps5
  go_wp2_with fail
  with_reducible refine (PA.out _).mono ?_
  rintro e w1 ⟨rfl, b1⟩
  clear PA
  go_wp2_with fail
  with_reducible refine (F1.out _).mono ?_
  rintro e w' ⟨rfl, rfl⟩
  go_wp2_with fail
  with_reducible refine (P1.out _ _ (Here.start' b1)).mono ?_
  rintro e w2 ⟨p, rfl, h2⟩
  clear P1 F1 b1
  go_wp2_with fail
  with_reducible refine (P2.out _ _ h2).mono ?_
  rintro e w3 ⟨q, rfl, h3⟩
  clear P2 h2
  have H3 : Hid (Here w [TextsTh w.heap.size (.slice none 0 0) [], TextsTh w.heap.size (.slice none 0 0) [], TextsTh w.heap.size (.slice none 0 0) [], InTh K q ⟨KK, 0, []⟩, OutTh K p KK 0] w3) := ((h3.newTexts w.heap.size).newTexts w.heap.size).newTexts w.heap.size
  clear h3
  go_wp2_with fail
  go_loopw [9, 10, 12] (fun v u i wr => ∃ (k : Nat) (a1 : Option Addr) (cc1 : Nat) (a2 : Option Addr) (cc2 : Nat), k ≤ N ∧ v = .slice a1 k cc1 ∧ u = .slice a2 k cc2 ∧ i = .int .i64 k ∧ Here w [TextsTh w.heap.size (.slice none 0 0) [], TextsTh w.heap.size (.slice a2 k cc2) (textsT k), TextsTh w.heap.size (.slice a1 k cc1) (recsT KK (List.range k)), InTh K q ⟨KK, 0, []⟩, OutTh K p KK k] wr) (fun _ _ i _ => N - (intOf i).toNat)
  case atStart => exact ⟨0, none, 0, none, 0, Nat.zero_le _, rfl, rfl, rfl, H3.out⟩
  case round =>
    clear H3
    obtain ⟨k, a1, cc1, a2, cc2, hkn, rfl, rfl, rfl, hh⟩ := hrel
    by_cases hlt : k < N
    · have dlt : decide ((k : Int) < (N : Int)) = true := decide_eq_true (by omega)
      have w8 : IntKind.u8.wrap (k : Int) = (k : Int) := by rw [IntKind.wrap_u8]; omega
      have hcv := conv_tOrd wr k (by omega)
      have h4 := hh.alloc (.cells #[.int .u8 116, .int .u8 (k : Int)] 5)
      have PS := h4.sealT 4 (tOrd k) rfl (by rw [tOrd_size]; decide) (by omega)
      have HR : Hid _ := recsT_more KK k
      have HT : Hid _ := textsT_more k
      have HL : Hid _ := (recsT_len KK (List.range k)).trans List.length_range
      have HL2 : Hid _ := textsT_len k
      clear hh h4
      generalize hRR : recS KK k (tOrd k) = R at *
      generalize hTK : tOrd k = TK at *
      go_wp2_with fail
      with_reducible refine PS.mono ?_
      rintro e w4 ⟨rfl, h5⟩
      clear PS hcv
      replace h5 : Here w [TextsTh w.heap.size (.slice none 0 0) [], TextsTh w.heap.size (.slice a2 k cc2) (textsT k), TextsTh w.heap.size (.slice a1 k cc1) (recsT KK (List.range k)), InTh K q ⟨KK, 0, []⟩, OutTh K p KK (k + 1)] w4 := h5
      have hown := own_row13 HL.out.symm ((h5.alloc (.cells #[.string R] 9)).texts 2 rfl)
      have hsz := h5.sz
      have H5 : Hid _ := h5.alloc (.cells #[.string R] 9)
      clear h5
      generalize hRL : recsT KK (List.range k) = RL at *
      go_wp2_with (first | (at_builtin; refine wpList_append_two _ rfl (.tmp 69) (.tmp 71) 31 rfl w.heap.size 9 i0 (.string ⟨#[]⟩) 1 16 Tryz.underlying31 hi0 hz0 hz1 hz2 rfl (by decide) (.slice a1 k cc1) k (cellsT RL) rfl hown ⟨w4.heap.size, 0, none⟩ 1 1 [.string R] rfl rfl (cell_one_new w4 (.string R) 9) (by intro u hu; simp at hu; rw [hu]; rfl) (by unfold maxLen; omega) (by omega) (by simp; omega) ?_))
      intro v' w5 ho5 hg5 hat5
      have hown5 := own_more13 HL.out.symm ho5
      rw [HR.out] at hown5
      obtain ⟨a', c', rfl⟩ : ∃ a' c', v' = .slice a' (k + 1) c' := by
        have := hown5.shape
        rw [recsT_len, List.length_range] at this
        exact this
      have h6 := H5.out.grow 2 rfl hown5 hg5 (by rw [show (w4.alloc (.cells #[.string R] 9)).heap.size = w4.heap.size + 1 by simp]; exact hat5)
      replace h6 : Here w [TextsTh w.heap.size (.slice none 0 0) [], TextsTh w.heap.size (.slice a2 k cc2) (textsT k), TextsTh w.heap.size (.slice a' (k + 1) c') (recsT KK (List.range (k + 1))), InTh K q ⟨KK, 0, []⟩, OutTh K p KK (k + 1)] w5 := h6
      clear hown ho5 hg5 hat5 hown5 H5
      have hown := own_row13 HL2.out.symm ((h6.alloc (.cells #[.string TK] 9)).texts 1 rfl)
      have hsz := h6.sz
      have H6 : Hid _ := h6.alloc (.cells #[.string TK] 9)
      clear h6
      generalize hTL : textsT k = TL at *
      go_wp2_with (first | (at_builtin; refine wpList_append_two _ rfl (.tmp 73) (.tmp 75) 31 rfl w.heap.size 9 i0 (.string ⟨#[]⟩) 1 16 Tryz.underlying31 hi0 hz0 hz1 hz2 rfl (by decide) (.slice a2 k cc2) k (cellsT TL) rfl hown ⟨w5.heap.size, 0, none⟩ 1 1 [.string TK] rfl rfl (cell_one_new w5 (.string TK) 9) (by intro u hu; simp at hu; rw [hu]; rfl) (by unfold maxLen; omega) (by omega) (by simp; omega) ?_))
      intro v' w6 ho6 hg6 hat6
      have hown6 := own_more13 HL2.out.symm ho6
      rw [HT.out] at hown6
      obtain ⟨a'', c'', rfl⟩ : ∃ a' c', v' = .slice a' (k + 1) c' := by
        have := hown6.shape
        rw [textsT_len] at this
        exact this
      have h7 := H6.out.grow 1 rfl hown6 hg6 (by rw [show (w5.alloc (.cells #[.string TK] 9)).heap.size = w5.heap.size + 1 by simp]; exact hat6)
      replace h7 : Here w [TextsTh w.heap.size (.slice none 0 0) [], TextsTh w.heap.size (.slice a'' (k + 1) c'') (textsT (k + 1)), TextsTh w.heap.size (.slice a' (k + 1) c') (recsT KK (List.range (k + 1))), InTh K q ⟨KK, 0, []⟩, OutTh K p KK (k + 1)] w6 := h7
      clear hown ho6 hg6 hat6 hown6 H6 HL HL2 HR HT
      go_wp2
      go_roundw
      case rel => exact ⟨k + 1, a', c', a'', c'', by omega, rfl, rfl, by go_num, h7⟩
      case measure => simp [intOf]; omega
    · obtain rfl : k = N := by omega
      have dlt : decide ((k : Int) < (k : Int)) = false := by simp
      have H7 : Hid _ := hh
      clear hh
      go_wp2_with fail
      go_loopw [16] (fun i wr => ∃ (j : Nat) (σ : List Nat), j ≤ m + 1 ∧ i = .int .i64 j ∧ Hid (σ.Perm (List.range k)) ∧ Here w [TextsTh w.heap.size (.slice none 0 0) [], TextsTh w.heap.size (.slice a2 k cc2) (textsT k), TextsTh w.heap.size (.slice a1 k cc1) (recsT KK σ), InTh K q ⟨KK, 0, []⟩, OutTh K p KK k] wr) (fun i _ => m + 2 - (intOf i).toNat)
      case atStart => exact ⟨0, List.range k, Nat.zero_le _, rfl, List.Perm.refl _, H7.out⟩
      case round =>
        clear H7
        obtain ⟨j, σ, hj, rfl, hσ, hh⟩ := hrel
        have wj : IntKind.i64.wrap ((j : Int) + 1) = (j : Int) + 1 := by rw [IntKind.wrap_i64]; omega
        have wj2 : IntKind.i64.wrap ((j : Int) + 2) = (j : Int) + 2 := by rw [IntKind.wrap_i64]; omega
        obtain ⟨j1, hj1⟩ : ∃ j1, j + 1 = j1 := ⟨_, rfl⟩
        have wj : IntKind.i64.wrap ((j : Int) + 1) = (j1 : Int) := by rw [IntKind.wrap_i64]; omega
        by_cases hgo : j1 < m ∧ 0 < k
        · obtain ⟨hg1, hg2⟩ := hgo
          have d1 : decide ((j1 : Int) < (m : Int)) = true := decide_eq_true (by omega)
          have d2 : decide (0 < (k : Int)) = true := decide_eq_true (by omega)
          obtain ⟨bb, oo, rfl, _⟩ := S0.out j (by omega)
          have S1 := S0.out.later hh.bel
          have hc1 : wr.cell? ⟨bb, oo + j, none⟩ = some (.int .i64 (C j)) := by
            obtain ⟨b', o', e, hc'⟩ := S1 j (by omega)
            injection e with e; injection e with e1 e2 _; subst e1 e2; exact hc'
          have hc2 : wr.cell? ⟨bb, oo + j1, none⟩ = some (.int .i64 (C j1)) := by
            obtain ⟨b', o', e, hc'⟩ := S1 j1 (by omega)
            injection e with e; injection e with e1 e2 _; subst e1 e2; exact hc'
          clear S1
          obtain ⟨_, A, hA, hAe⟩ := place13 (C j) k hg2
          obtain ⟨_, B, hB, hBe⟩ := place13 (C j1) k hg2
          have wA := tmodI (C j) k (by omega) (by omega)
          have wB := tmodI (C j1) k (by omega) (by omega)
          have k0 : ¬ ((k : Int) = 0) := by omega
          have i0' : (0 : Int) ≤ (j : Int) := by omega
          have i1' : (j : Int) < (m : Int) := by omega
          have i2' : (0 : Int) ≤ (j1 : Int) := by omega
          have i3' : (j1 : Int) < (m : Int) := by omega
          have hlen : (recsT KK σ).length = k := (recsT_len KK σ).trans (perm_len hσ.out)
          have hrA := recsT_at KK σ A (by rw [perm_len hσ.out]; exact hA)
          have hrB := recsT_at KK σ B (by rw [perm_len hσ.out]; exact hB)
          have hperm : Hid (((σ.set A (σ.getD B 0)).set B (σ.getD A 0)).Perm (List.range k)) := swap_perm σ k A B hσ.out hA hB
          have hset : Hid (((recsT KK σ).set A (recS KK (σ.getD B 0) (tOrd (σ.getD B 0)))).set B (recS KK (σ.getD A 0) (tOrd (σ.getD A 0))) = recsT KK ((σ.set A (σ.getD B 0)).set B (σ.getD A 0))) := by
            show _ = _
            rw [recsT_set, recsT_set]
          generalize hsw : (σ.set A (σ.getD B 0)).set B (σ.getD A 0) = σ' at *
          generalize recS KK (σ.getD A 0) (tOrd (σ.getD A 0)) = XA at *
          generalize recS KK (σ.getD B 0) (tOrd (σ.getD B 0)) = XB at *
          generalize hRL : recsT KK σ = RL at *
          have HH : Hid _ := hh
          clear hh hσ hsw hRL
          go_wp2_with fail
          go_quiet (fail)
          have hh := HH.out.drewN nq
          clear HH hc1 hc2 wA wB i0' i1' i2' i3'
          generalize wr.drewN nq = w1 at *
          have hown := hh.texts 2 rfl
          obtain ⟨g, cap, e7, _, _⟩ := hown.form (by omega)
          injection e7 with x1 x2 x3
          subst x1 x3
          have cA := hown.cell hlen.symm A (by omega)
          have cB := hown.cell hlen.symm B (by omega)
          rw [hrA] at cA
          rw [hrB] at cB
          have zA := hown.frozen hlen.symm A
          have zB := hown.frozen hlen.symm B
          have h8 := hh.setText 2 rfl hlen.symm A XB
          have h9 := h8.setText 2 rfl (by rw [List.length_set]; exact hlen.symm) B XA
          replace h9 : Here w [TextsTh w.heap.size (.slice none 0 0) [], TextsTh w.heap.size (.slice a2 k cc2) (textsT k), TextsTh w.heap.size (.slice (some ⟨g, 0, none⟩) k cc1) ((RL.set A XB).set B XA), InTh K q ⟨KK, 0, []⟩, OutTh K p KK k] _ := h9
          rw [hset.out] at h9
          have H9 : Hid _ := h9
          have H10 : Hid (A = B → Here w [TextsTh w.heap.size (.slice none 0 0) [], TextsTh w.heap.size (.slice a2 k cc2) (textsT k), TextsTh w.heap.size (.slice (some ⟨g, 0, none⟩) k cc1) (recsT KK σ'), InTh K q ⟨KK, 0, []⟩, OutTh K p KK k] ((w1.setCell ⟨g, A, none⟩ (.string XA)).setCell ⟨g, A, none⟩ (.string XA))) := fun e => by
            subst e
            have h10 := (hh.setText 2 rfl hlen.symm A XA).setText 2 rfl (by rw [List.length_set]; exact hlen.symm) A XA
            have e2 := hset.out
            rw [List.set_set] at e2
            replace h10 : Here w [TextsTh w.heap.size (.slice none 0 0) [], TextsTh w.heap.size (.slice a2 k cc2) (textsT k), TextsTh w.heap.size (.slice (some ⟨g, 0, none⟩) k cc1) ((RL.set A XA).set A XA), InTh K q ⟨KK, 0, []⟩, OutTh K p KK k] _ := h10
            rw [List.set_set, e2] at h10
            exact h10
          have a0' : (0 : Int) ≤ (A : Int) := by omega
          have a1' : (A : Int) < (k : Int) := by omega
          have b0' : (0 : Int) ≤ (B : Int) := by omega
          have b1' : (B : Int) < (k : Int) := by omega
          clear hh hown h8 h9 hrA hrB hset x2 hlen
          clear wj d1 hAe hBe k0 S0 HC hlt dlt hj1
          by_cases hAB : A = B
          · subst hAB
            go_wp2_with fail
            go_region
            all_goals
              go_wp2
              go_roundw
              case rel => exact ⟨j + 2, σ', by omega, by go_num, hperm, by first | exact H9.out | exact H9.out.drew | exact H10.out (by first | rfl | trivial) | exact (H10.out (by first | rfl | trivial)).drew⟩
              case measure => simp [intOf]; omega
          · have hBA : ¬ B = A := fun e => hAB e.symm
            go_wp2_with fail
            go_region
            all_goals
              go_wp2
              go_roundw
              case rel => exact ⟨j + 2, σ', by omega, by go_num, hperm, by first | exact H9.out | exact H9.out.drew | exact H10.out (by first | rfl | trivial) | exact (H10.out (by first | rfl | trivial)).drew⟩
              case measure => simp [intOf]; omega
        · have H8 : Hid _ := hh
          have hex : decide ((j1 : Int) < (m : Int)) = false ∨ decide ((j1 : Int) < (m : Int)) = true ∧ decide (0 < (k : Int)) = false := by
            by_cases h : j1 < m
            · exact Or.inr ⟨decide_eq_true (by omega), decide_eq_false (by omega)⟩
            · exact Or.inl (decide_eq_false (by omega))
          have hord : Hid (InS.Ord ⟨KK, 0, []⟩ KK tOrd (fun x => x ∈ σ.take 0)) := (InS.ord_zero KK tOrd).congr (fun j => by simp)
          clear hh
          rcases hex with d1 | ⟨d1, d2⟩
          all_goals go_wp2_with fail
          all_goals
            go_loopw [11, 19] (fun v i wr => ∃ (t : Nat) (s : InS) (a3 : Option Addr) (c3 : Nat), t ≤ k ∧ v = .slice a3 s.next c3 ∧ i = .int .i64 t ∧ Hid (s.Ord KK tOrd (fun x => x ∈ σ.take t)) ∧ Here w [TextsTh w.heap.size (.slice a3 s.next c3) (textsT s.next), TextsTh w.heap.size (.slice a2 k cc2) (textsT k), TextsTh w.heap.size (.slice a1 k cc1) (recsT KK σ), InTh K q s, OutTh K p KK k] wr) (fun _ i _ => k - (intOf i).toNat)
            case atStart => exact ⟨0, ⟨KK, 0, []⟩, none, 0, Nat.zero_le _, rfl, rfl, hord, H8.out⟩
            case round =>
              clear H8 hord
              obtain ⟨t, s, a3, c3, htk, rfl, rfl, hord, hh⟩ := hrel
              by_cases htl : t < k
              · try (exfalso; first | omega | (simp only [decide_eq_false_iff_not] at d2; omega))
                all_goals
                  have dl : decide ((t : Int) < (k : Int)) = true := decide_eq_true (by omega)
                  have hx1 := perm_lt hσ.out htl
                  have hx2 := perm_new hσ.out htl
                  obtain ⟨e1, n1, o1, O1⟩ := hord.out.step (σ.getD t 0) hx2 (by omega) (by omega) (by rw [tOrd_size]; decide)
                  have e4 := O1.again (σ.getD t 0) (tOrd (σ.getD t 0)) (Or.inr rfl) (by omega) (by rw [tOrd_size]; decide)
                  have hO2 : Hid (InS.Ord (stepR s (recS KK (σ.getD t 0) (tOrd (σ.getD t 0)))) KK tOrd (fun x => x ∈ σ.take (t + 1))) := O1.congr (fun j => (take_more σ t (by rw [perm_len hσ.out]; exact htl) j).symm)
                  have hn40 : (stepR s (recS KK (σ.getD t 0) (tOrd (σ.getD t 0)))).next ≤ 400 := O1.ok.next
                  have hcat := textsT_plus s.next (stepR s (recS KK (σ.getD t 0) (tOrd (σ.getD t 0)))).next n1
                  rw [← o1] at hcat
                  have hlo : (outR s (recS KK (σ.getD t 0) (tOrd (σ.getD t 0)))).length = (stepR s (recS KK (σ.getD t 0) (tOrd (σ.getD t 0)))).next - s.next := by rw [o1, List.length_map, List.length_range]
                  have hz := recS_le KK (σ.getD t 0) (tOrd (σ.getD t 0)) (by rw [tOrd_size]; decide)
                  have hlen : (recsT KK σ).length = k := (recsT_len KK σ).trans (perm_len hσ.out)
                  have hat := recsT_at KK σ t (by rw [perm_len hσ.out]; exact htl)
                  obtain ⟨z1, z2⟩ := step_no (s := stepR s (recS KK (σ.getD t 0) (tOrd (σ.getD t 0)))) (b := recS KK (σ.getD t 0) (tOrd (σ.getD t 0))) (by omega)
                  have hown := hh.texts 2 rfl
                  obtain ⟨g, cap, e7, _, _⟩ := hown.form (by omega)
                  injection e7 with x1 x2 x3
                  subst x1 x3
                  generalize recS KK (σ.getD t 0) (tOrd (σ.getD t 0)) = X at *
                  have CC : Hid (∀ (w1 : World), OwnT w1 w.heap.size (.slice (some ⟨g, 0, none⟩) k cc1) (recsT KK σ) → w1.cell? ⟨g, t, none⟩ = some (.string X)) := fun w1 h => by
                    have := h.cell hlen.symm t (by omega)
                    rw [hat] at this
                    exact this
                  have ct := CC.out _ hown
                  have PO := hh.open_ 3 X rfl (by omega)
                  rw [e1] at PO
                  generalize hS2 : stepR s X = s2 at *
                  generalize outR s X = O at *
                  have PO2 : Hid _ := fun w1 (v : Value) (h : Here w [TextsTh w.heap.size v O, TextsTh w.heap.size (.slice a3 s.next c3) (textsT s.next), TextsTh w.heap.size (.slice a2 k cc2) (textsT k), TextsTh w.heap.size (.slice (some ⟨g, 0, none⟩) k cc1) (recsT KK σ), InTh K q s2, OutTh K p KK k] w1) => h.open_ 4 X rfl (by omega)
                  rw [e4, z1, z2] at PO2
                  have hnn : s.next ≤ s2.next := n1
                  have HCAT : Hid (textsT s.next ++ O = textsT s2.next) := hcat
                  have hll : s.next + O.length = s2.next := by omega
                  have HLO : Hid _ := hll
                  have h0t : (0 : Int) ≤ (t : Int) := by omega
                  have h1t : (t : Int) < (k : Int) := by omega
                  clear hown e1 e4 O1 o1 hcat hlo hz hlen hat z1 z2 x2 hS2 hx1 hx2 hh hord
                  generalize recsT KK σ = RL at *
                  go_wp2_with fail
                  with_reducible refine PO.mono ?_
                  rintro e w5 ⟨a5, c5, rfl, h5⟩
                  replace h5 : Here w [TextsTh w.heap.size (.slice a5 O.length c5) O, TextsTh w.heap.size (.slice a3 s.next c3) (textsT s.next), TextsTh w.heap.size (.slice a2 k cc2) (textsT k), TextsTh w.heap.size (.slice (some ⟨g, 0, none⟩) k cc1) RL, InTh K q s2, OutTh K p KK k] w5 := h5
                  have ct5 := CC.out _ (h5.texts 3 rfl)
                  clear PO ct
                  go_wp2_with fail
                  with_reducible refine (PO2.out _ _ h5).mono ?_
                  rintro e w6 ⟨a6, c6, rfl, h6⟩
                  replace h6 : Here w [TextsTh w.heap.size (.slice a5 O.length c5) O, TextsTh w.heap.size (.slice a3 s.next c3) (textsT s.next), TextsTh w.heap.size (.slice a2 k cc2) (textsT k), TextsTh w.heap.size (.slice (some ⟨g, 0, none⟩) k cc1) RL, InTh K q s2, OutTh K p KK k] w6 := Here.tail h6
                  clear PO2 ct5 h5 CC
                  have hown := own_row13 (textsT_len s.next).symm (h6.texts 1 rfl)
                  have hsrc := seen_src (own_seen (h6.texts 0 rfl))
                  rw [show (cellsT O).length = O.length by simp [cellsT]] at hsrc
                  have hsz := h6.sz
                  have H6 : Hid _ := h6
                  clear h6
                  go_wp2_with (first | (at_builtin; refine wpList_append_src _ rfl (.tmp 152) (.tmp 153) 31 rfl w.heap.size 9 i0 (.string ⟨#[]⟩) 16 Tryz.underlying31 hi0 hz0 hz1 hz2 rfl (.slice a3 s.next c3) s.next (cellsT (textsT s.next)) rfl hown (.slice a5 O.length c5) O.length (cellsT O) rfl hsrc (by intro u hu; simp [cellsT] at hu; obtain ⟨_, _, rfl⟩ := hu; rfl) (by unfold maxLen; omega) (by omega) (by omega) ?_))
                  intro v' w7 ho7 hg7 hat7
                  have hown7 : OwnT w7 w.heap.size v' (textsT s2.next) := by
                    rw [← HCAT.out]
                    unfold OwnT
                    rw [List.length_append, textsT_len]
                    have e : cellsT (textsT s.next ++ O) = cellsT (textsT s.next) ++ cellsT O := by simp [cellsT]
                    rw [e, HLO.out]
                    exact ho7
                  obtain ⟨a', c', rfl⟩ : ∃ a' c', v' = .slice a' s2.next c' := by
                    have := hown7.shape
                    rw [textsT_len] at this
                    exact this
                  have h7 := H6.out.grow 1 rfl hown7 hg7 hat7
                  have H7 : Hid (Here w [TextsTh w.heap.size (.slice a' s2.next c') (textsT s2.next), TextsTh w.heap.size (.slice a2 k cc2) (textsT k), TextsTh w.heap.size (.slice (some ⟨g, 0, none⟩) k cc1) RL, InTh K q s2, OutTh K p KK k] w7) := Here.tail h7
                  clear hown hsrc H6 ho7 hg7 hat7 hown7 h7 HCAT
                  go_wp2
                  go_roundw
                  case rel => exact ⟨t + 1, s2, a', c', by omega, rfl, by go_num, hO2, H7.out⟩
                  case measure => simp [intOf]; omega
              · obtain rfl : t = k := by omega
                have dl : decide ((t : Int) < (t : Int)) = false := by simp
                obtain ⟨D1, D2⟩ := (hord.out.congr (D' := fun j => j < t) (fun j => perm_all hσ.out j)).done t (fun j => Iff.rfl)
                have PQ : Hid _ := fun w1 (h : Here w [TextsTh w.heap.size (.slice a3 s.next c3) (textsT s.next), TextsTh w.heap.size (.slice a2 t cc2) (textsT t), TextsTh w.heap.size (.slice a1 t cc1) (recsT KK σ), InTh K q s, OutTh K p KK t] w1) => book_sameTexts (textsT t) (.slice a3 s.next c3) (.slice a2 t cc2) w1 (by have := own_seen (h.texts 0 rfl); rw [D1] at this; rw [D1]; exact this) (own_seen (h.texts 1 rfl)) (by rw [textsT_len]; omega)
                have PW : Hid _ := fun w1 (h : Here w [TextsTh w.heap.size (.slice a3 s.next c3) (textsT s.next), TextsTh w.heap.size (.slice a2 t cc2) (textsT t), TextsTh w.heap.size (.slice a1 t cc1) (recsT KK σ), InTh K q s, OutTh K p KK t] w1) => h.inWaits 3 rfl
                have PN : Hid _ := fun w1 (h : Here w [TextsTh w.heap.size (.slice a3 s.next c3) (textsT s.next), TextsTh w.heap.size (.slice a2 t cc2) (textsT t), TextsTh w.heap.size (.slice a1 t cc1) (recsT KK σ), InTh K q s, OutTh K p KK t] w1) => h.inNext 3 rfl
                have hW0 : s.W.length = 0 := by rw [D2]; rfl
                rw [hW0] at PW
                have HD : Hid (s.next = t) := D1
                clear D1 D2 hW0 hord
                go_wp2_with fail
                with_reducible refine (PQ.out _ hh).mono ?_
                rintro e w5 ⟨rfl, b5⟩
                have h5 := hh.below b5
                clear hh b5 PQ
                go_wp2_with fail
                with_reducible refine (PW.out _ h5).mono ?_
                rintro e w6 ⟨rfl, h6⟩
                replace h6 : Here w [TextsTh w.heap.size (.slice a3 s.next c3) (textsT s.next), TextsTh w.heap.size (.slice a2 t cc2) (textsT t), TextsTh w.heap.size (.slice a1 t cc1) (recsT KK σ), InTh K q s, OutTh K p KK t] w6 := h6
                have PX := PN.out _ h6
                rw [HD.out] at PX
                have HB : Hid _ := h6.bel
                clear h6 h5 PW PN
                go_wp2_with fail
                with_reducible refine PX.mono ?_
                rintro e w7 ⟨rfl, mm, rfl⟩
                go_wp2
                go_ret
                exact ⟨rfl, bel13s HB.out (bel_drewN13 _ _)⟩

end Go.Proofs.YtanghehmfagmfaaGreatDoor
