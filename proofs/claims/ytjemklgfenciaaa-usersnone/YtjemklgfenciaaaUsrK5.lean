/-
  Package users: New.
-/
import Derived.Test.YtjemklgfenciaaaUsrK4
namespace Go.Proofs.Ytjemklgfenciaaa
open Go.RowKit
set_option linter.unusedVariables false
set_option maxRecDepth 100000
set_option linter.unusedSimpArgs false

/-- The first k users are in. -/
structure NewAt (w wr : World) (p m : Nat) (X : Nat → (ByteArray × ByteArray)) (k : Nat) : Prop where
  ok : usersOk (listU X k) = true
  st : ∃ nn D blk, nn ≤ k ∧ StU wr p m nn D blk (freshU (listU X k)) ∧ ∀ j, blocksU p m blk (freshU (listU X k)) j → w.heap.size ≤ j
  bel : Below w.heap.size w wr
theorem NewAt.start (w : World) (X : Nat → (ByteArray × ByteArray)) : NewAt w ((w.alloc (.map #[] 0)).alloc (.cells #[.map (some w.heap.size)] 45)) (w.heap.size + 1) w.heap.size X 0 := by
  refine ⟨rfl, ⟨0, .map [], fun _ => 0, Nat.le_refl _, ⟨?_, ?_, by decide, fun n _ => rfl, fun n hn => (by cases hn), fun i u hi => (by cases hi), (by omega), fun i hi => absurd hi (Nat.not_lt_zero _), fun i j hi => absurd hi (Nat.not_lt_zero _), usersOk_fresh (L := []) rfl⟩, fun j hj => ?_⟩, ((Below.refl _ w).alloc (Nat.le_refl _) _).alloc (by simp) _⟩
  · have := RowIs.new (w.alloc (.map #[] 0)) 45 [.map (some w.heap.size)]
    simpa using this
  · exact World.ownsMap.alloc (World.ownsMap_made w Try.prog 9 RefB0) _
  · rcases hj with rfl | rfl | ⟨i, hi, _⟩
    · omega
    · exact Nat.le_refl _
    · exact absurd hi (Nat.not_lt_zero _)

set_option maxHeartbeats 4000000 in
theorem new_U (w : World) (oa : Option Addr) (n c : Nat) (X : Nat → (ByteArray × ByteArray)) (hx : PairsAt w oa n X) (hn : n ≤ maxLen) (hz : ∀ i, i < n → (X i).1.size ≤ maxLen ∧ (X i).2.size ≤ maxLen) :
    Calls Try.prog 8 #[.slice oa n c] w fun e w' => ((usersOk (listU X n) = true ∧ ∃ p m, e = .returned (.tuple #[.pointer (some ⟨p, 0, none⟩), .int .i64 0]) ∧ NewAt w w' p m X n) ∨ (usersOk (listU X n) = false ∧ e = .returned (.tuple #[.pointer none, .int .i64 1]) ∧ Below w.heap.size w w')) := by
  by_cases h20 : 20 < n
  · have hbad : usersOk (listU X n) = false := by
      unfold usersOk
      rw [listU_len, decide_eq_false (by omega)]
      rfl
    have d1 : decide (20 < (n : Int)) = true := decide_eq_true (by omega)
    unfold maxLen at hn
    go_enter Try.func8, Try.ntmps8
    go_wp2
    go_ret2
    exact Or.inr ⟨hbad, rfl, Below.refl _ _⟩
  · have d1 : decide (20 < (n : Int)) = false := decide_eq_false (by omega)
    have hmm := @run_makeMap Try.prog
    have HX : Hid (PairsAt w oa n X) := hx
    have HZ : Hid _ := hz
    have HS : Hid _ := NewAt.start w X
    clear hx hz hn
    go_enter Try.func8, Try.ntmps8
    go_wp2_with fail
    clear hmm
    generalize hp : w.heap.size + 1 = p at *
    generalize hm : w.heap.size = m at *
    go_loopw [15] (fun i wr => ∃ k : Nat, k ≤ n ∧ i = .int .i64 k ∧ Hid (NewAt w wr p m X k)) (fun i _ => n - (intOf i).toNat)
    case atStart => exact ⟨0, Nat.zero_le _, rfl, HS⟩
    case round =>
      clear HS
      obtain ⟨k, hk, rfl, hA⟩ := hrel
      by_cases hlt : k < n
      · have dlt : decide ((k : Int) < (n : Int)) = true := decide_eq_true (by omega)
        have i0 : (0 : Int) ≤ (k : Int) := by omega
        have i1 : (k : Int) < (n : Int) := by omega
        obtain ⟨bb, oo, rfl, c1, c2⟩ := (HX.out.later hA.out.bel) k hlt
        obtain ⟨z1, z2⟩ := HZ.out k hlt
        have HXK : Hid (listU X (k + 1) = listU X k ++ [((X k).1, (X k).2)]) := listU_succ X k
        have PR : Hid _ := fun w1 => right_U w1 (X k).1 (X k).2 z1 z2
        have HQ : Hid _ := usersOk_snoc (x := ((X k).1, (X k).2)) hA.out.ok (by rw [listU_len]; omega)
        have hsn : usersOk (listU X (k + 1)) = (userOkU (X k).1 (X k).2 && !hasU (freshU (listU X k)) (X k).1) := by rw [HXK.out]; exact HQ.out
        have HB : Hid (usersOk (listU X (k + 1)) = false → usersOk (listU X n) = false) := fun hb => by
          obtain ⟨C, hC⟩ := listU_take X (show k + 1 ≤ n by omega)
          cases hu : usersOk (listU X n) with
          | false => rfl
          | true =>
            rw [hC] at hu
            rw [usersOk_prefix hu] at hb
            cases hb
        clear HQ
        generalize (X k).1 = A at *
        generalize (X k).2 = S at *
        generalize hoo : oo + k * 2 = o1 at *
        have hz1 : A.size ≤ maxLen := z1
        have hA1 := hA.out.st
        have hb0 := hA.out.bel
        have hok0 := hA.out.ok
        obtain ⟨nn, D, blk, hnn, hst, hblk⟩ := hA1
        have hst1 := hst.below ((Below.refl _ wr).alloc (Nat.le_refl _) (.cells #[.string A, .string S] 29))
        have rg := RowIs.new wr 29 [.string A, .string S]
        have hb1 : Below w.heap.size w (wr.alloc (.cells #[.string A, .string S] 29)) := hb0.alloc hb0.size _
        have hbk : ∀ j, blocksU p m blk (freshU (listU X k)) j → w.heap.size ≤ j := hblk
        have HOK0 : Hid _ := hok0
        have HSN : Hid _ := hsn
        clear z1 z2 hst hblk hb0 hok0 hsn hA
        go_wp2_with fail
        generalize hW1 : wr.alloc (.cells #[.string A, .string S] 29) = W1 at *
        clear hW1
        generalize wr.heap.size = g at *
        have bw : Below W1.heap.size W1 W1.drew := (Below.refl _ _).drew
        have HBel : Hid _ := hb1
        have HSt : Hid _ := hst1
        have HRg : Hid (RowIs W1 g 29 [.string A, .string S]) := rg
        have HBk : Hid _ := hbk
        clear hb1 hst1 rg hbk
        cases hq : userOkU A S with
        | false =>
          rw [hq] at PR
          have HF : Hid (usersOk (listU X n) = false) := HB.out (by rw [HSN.out, hq]; rfl)
          have g1 : W1.cell? ⟨g, 0, none⟩ = some (.string A) := HRg.out.cellAt rfl
          have g2 : W1.cell? ⟨g, 1, none⟩ = some (.string S) := HRg.out.cellAt rfl
          clear hq c1 c2
          first
            | go_region_with (first | (go_at_call 16; with_reducible refine (PR.out _).mono ?_; rintro e w5 ⟨rfl, b5⟩; replace bw := bel_chain8 bw b5; clear b5))
            | fail
          all_goals
            have hbn : Below w.heap.size w _ := HBel.out.trans (bw.mono HBel.out.size)
            go_wp2
            go_ret2
            exact Or.inr ⟨HF.out, rfl, hbn⟩
        | true =>
          rw [hq] at PR
          cases hh : hasU (freshU (listU X k)) A with
          | true =>
            have HF : Hid (usersOk (listU X n) = false) := HB.out (by rw [HSN.out, hq, hh]; rfl)
            have HL : Hid (∀ w', Below W1.heap.size W1 w' → w'.cell? ⟨g, 0, none⟩ = some (.string A) ∧ w'.cell? ⟨g, 1, none⟩ = some (.string S) ∧ w'.cell? ⟨p, 0, none⟩ = some (.map (some m)) ∧ (Instr.lookup 43 (.map (some m)) (.string A) false).run Try.prog w' = .ok (.pointer (some ⟨blk (idxU (freshU (listU X k)) A), 0, none⟩)) w') := fun w' hb =>
              ⟨(RowIs.below HRg.out hb HRg.out.lt).cellAt rfl, (RowIs.below HRg.out hb HRg.out.lt).cellAt rfl, (HSt.out.below hb).hd.cellAt rfl, look_yes (HSt.out.below hb).mp hz1 (HSt.out.yes A hh)⟩
            generalize blk (idxU (freshU (listU X k)) A) = bq at *
            clear hq hh c1 c2
            go_region_held3 (fun w' => w'.cell? ⟨g, 0, none⟩ = some (.string A) ∧ w'.cell? ⟨g, 1, none⟩ = some (.string S) ∧ w'.cell? ⟨p, 0, none⟩ = some (.map (some m)) ∧ (Instr.lookup 43 (.map (some m)) (.string A) false).run Try.prog w' = .ok (.pointer (some ⟨bq, 0, none⟩)) w') (exact HL.out _ bw) (first | (go_at_call 16; (with_reducible refine (PR.out _).mono ?_); rintro e w5 ⟨rfl, b5⟩; replace bw := bel_chain8 bw b5; clear b5))
            all_goals
              have hbn : Below w.heap.size w _ := HBel.out.trans (bw.mono HBel.out.size)
              go_wp2
              go_ret2
              exact Or.inr ⟨HF.out, rfl, hbn⟩
          | false =>
            have hok1 : Hid (usersOk (listU X (k + 1)) = true) := by
              show usersOk (listU X (k + 1)) = true
              rw [HSN.out, hq, hh]; rfl
            have HL : Hid (∀ w', Below W1.heap.size W1 w' → w'.cell? ⟨g, 0, none⟩ = some (.string A) ∧ w'.cell? ⟨g, 1, none⟩ = some (.string S) ∧ w'.cell? ⟨p, 0, none⟩ = some (.map (some m)) ∧ (Instr.lookup 43 (.map (some m)) (.string A) false).run Try.prog w' = .ok (.pointer none) w') := fun w' hb =>
              ⟨(RowIs.below HRg.out hb HRg.out.lt).cellAt rfl, (RowIs.below HRg.out hb HRg.out.lt).cellAt rfl, (HSt.out.below hb).hd.cellAt rfl, look_no (HSt.out.below hb).mp hz1 (HSt.out.no A hh)⟩
            have hsz : A.size ≤ 1000000 ∧ S.size ≤ 1000000 := by
              unfold userOkU nameOkU at hq
              simp at hq
              omega
            have HH : Hid _ := hh
            clear hq hh c1 c2
            go_region_held3 (fun w' => w'.cell? ⟨g, 0, none⟩ = some (.string A) ∧ w'.cell? ⟨g, 1, none⟩ = some (.string S) ∧ w'.cell? ⟨p, 0, none⟩ = some (.map (some m)) ∧ (Instr.lookup 43 (.map (some m)) (.string A) false).run Try.prog w' = .ok (.pointer none) w') (exact HL.out _ bw) (first | (go_at_call 16; (with_reducible refine (PR.out _).mono ?_); rintro e w5 ⟨rfl, b5⟩; replace bw := bel_chain8 bw b5; clear b5))
            have hst5 := HSt.out.below bw
            have rg5 := RowIs.below HRg.out bw HRg.out.lt
            have HB5 : Hid (Below w.heap.size w w5) := HBel.out.trans (bw.mono HBel.out.size)
            have HSt5 : Hid _ := hst5
            have HRg5 : Hid _ := rg5
            clear hst5 rg5 HL bw
            go_wp2_with fail
            refine new_region (by kernel_rfl) (by kernel_rfl) (by kernel_rfl) rfl rfl rfl HSt5.out.hd HRg5.out HSt5.out.mp (by omega) hsz.1 hsz.2 ?_
            intro v1 v2 v3 v4 v5 v6 v7 v8 v9 v10 v11 v12 w6 w7 q hb6 hq6 hr6 hm6 hg6
            have hname : hasU (freshU (listU X k)) (⟨A, S, 0, false, 0⟩ : Usr).name = false := HH.out
            have hfr : freshU (listU X (k + 1)) = freshU (listU X k) ++ [⟨A, S, 0, false, 0⟩] := by rw [HXK.out]; exact freshU_snoc _ _
            have hst7 := HSt5.out.snoc (u := ⟨A, S, 0, false, 0⟩) (by omega) hname (by rw [← hfr]; exact usersOk_fresh hok1.out) hq6 hb6 hr6 hm6 hg6
            have hNew : Hid (NewAt w w7 p m X (k + 1)) := by
              refine ⟨hok1.out, ⟨nn + 1, _, _, by omega, by rw [hfr]; exact hst7, fun j hj => ?_⟩, ?_⟩
              · rcases hj with hj | hj | ⟨i, hi, hj⟩
                · exact HBk.out j (Or.inl hj)
                · exact HBk.out j (Or.inr (Or.inl hj))
                · rw [hfr, List.length_append, List.length_singleton] at hi
                  replace hj : j = (if i < (freshU (listU X k)).length then blk i else q) := hj
                  by_cases e : i < (freshU (listU X k)).length
                  · rw [if_pos e] at hj
                    exact HBk.out j (Or.inr (Or.inr ⟨i, e, hj⟩))
                  · rw [if_neg e] at hj
                    have := HB5.out.size
                    omega
              · exact (HB5.out.trans (hb6.mono HB5.out.size)).grown hg6 (Nat.le_trans HB5.out.size hb6.size) (fun j hj => by
                  obtain rfl := Option.some.inj hj
                  exact HBk.out _ (Or.inr (Or.inl rfl)))
            clear hst7 hfr hname hb6 hr6 hm6 hg6 hq6 HBel HSt HRg HBk HH hok1 HSt5 HRg5 HB5
            simp only [Act.put, List.setIfInBounds_toArray, List.set]
            rename_i K hK hS5
            refine hK _ _ ?_
            go_wp2
            go_roundw
            case rel => exact ⟨k + 1, by omega, by go_num, hNew⟩
            case measure => simp [intOf]; omega
      · have dlt : decide ((k : Int) < (n : Int)) = false := decide_eq_false (by omega)
        obtain rfl : k = n := by omega
        go_wp2
        go_ret2
        exact Or.inl ⟨hA.out.ok, p, m, rfl, hA.out⟩

end Go.Proofs.Ytjemklgfenciaaa
