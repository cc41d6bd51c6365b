/-
  Laws of chapter 11 over what package window's methods tell: WindowPlays.
-/
import Derived.Test.YtmpmhepaonifpaaWin6
import Derived.Test.YtmpmhepaonifpaaInts0
import Derived.Deep.CutRange
namespace Go.Proofs.Ytmpmhepaonifpaa
open Go.RowKit
set_option linter.unusedVariables false
set_option maxRecDepth 100000
set_option linter.unusedSimpArgs false

/-- Those ahead among the first j from n on. -/
def aheadP (n : Nat) (T : List Int) (j : Nat) : List Int := ((List.range j).map fun i : Nat => (n : Int) + (i : Int)).filter fun x => decide (x ∈ T)
theorem aheadP_zero (n : Nat) (T : List Int) : aheadP n T 0 = [] := rfl
theorem aheadP_succ (n : Nat) (T : List Int) (j : Nat) : aheadP n T (j + 1) = aheadP n T j ++ (if (n : Int) + (j : Int) ∈ T then [(n : Int) + (j : Int)] else []) := by
  unfold aheadP
  rw [List.range_succ, List.map_append, List.filter_append]
  congr 1
  by_cases h : (n : Int) + (j : Int) ∈ T <;> simp [h]
theorem aheadP_len (n : Nat) (T : List Int) (j : Nat) : (aheadP n T j).length ≤ j := by
  unfold aheadP
  exact Nat.le_trans (List.length_filter_le _ _) (by simp)
theorem aheadP_all (s : Wn) : aheadP s.n s.T 64 = s.ahead := rfl

set_option maxRecDepth 100000 in
set_option maxHeartbeats 1000000 in
theorem windowPlays_of (K : WindowKeeps) (oa : Option Addr) (n cap : Nat) (C : Nat → Int) (ask : Int) (w : World) (hl : n ≤ maxLen) (hask : (Lit.int .i64 ask).wf = true) (hC : IntsAt w oa n C) (hw0 : ∀ i, i < n → (Lit.int .i64 (C i)).wf = true) : Calls Try.prog 3 #[.slice oa n cap, .int .i64 ask] w fun e w' => e = .returned (.bool true) ∧ Below w.heap.size w w' := by
  have PA : Hid _ := alive11_of K
  have HC : Hid (∀ w', Below w.heap.size w w' → IntsAt w' oa n C) := fun w' hb => hC.later hb
  have HW : Hid _ := hw0
  have hab := bounds_i64 hask
  have HASK : Hid _ := hask
  unfold maxLen at hl
  clear hC hw0 hask
  by_cases c0 : 200 < (n : Int)
  · have d0 : decide (200 < (n : Int)) = true := decide_eq_true c0
    go_enter Try.func3, Try.ntmps3
    go_wp2_with fail
    with_reducible refine (PA.out _).mono ?_
    rintro e w1 ⟨rfl, b⟩
    go_wp2
    go_ret
    exact ⟨rfl, b⟩
  have d0 : decide (200 < (n : Int)) = false := decide_eq_false c0
  have hn3 : n ≤ 200 := by omega
  have hmm := @run_makeMap Try.prog
  obtain ⟨i0, hi0, hz0, hz1, hz2⟩ := info_parts infoI
  go_enter Try.func3, Try.ntmps3
  go_wp2_with fail
  with_reducible refine (PA.out _).mono ?_
  rintro e u1 ⟨rfl, b⟩
  have H0 : Hid (PlS K w u1.heap.size Wn.zero [] 0 (fun k => k = u1.heap.size) (.slice none 0 0) (.slice none 0 0) [] [] [] (((u1.alloc (.cells Try.zeroCells32 32)).alloc (.map #[] 0)).alloc (.cells #[.slice none 0 0, .slice none 0 0, .slice none 0 0, .slice none 0 0, .slice none 0 0, .slice none 0 0, .slice none 0 0, .slice none 0 0, .slice none 0 0, .slice none 0 0, .slice none 0 0, .slice none 0 0, .slice none 0 0, .slice none 0 0] 43))) := pls_new K b
  clear b
  go_wp2_with fail
  generalize (((u1.alloc (.cells Try.zeroCells32 32)).alloc (.map #[] 0)).alloc (.cells #[.slice none 0 0, .slice none 0 0, .slice none 0 0, .slice none 0 0, .slice none 0 0, .slice none 0 0, .slice none 0 0, .slice none 0 0, .slice none 0 0, .slice none 0 0, .slice none 0 0, .slice none 0 0, .slice none 0 0, .slice none 0 0] 43)) = u2 at *
  clear hmm
  go_loopw [9, 6] (fun i nx wr => ∃ (k : Nat) (s : Wn) (m : Nat) (bl : Nat → Prop) (vo wo : Value) (vs ws : List Value) (ls : List (List Int)), k ≤ n ∧ i = .int .i64 k ∧ nx = .int .i64 (s.n : Int) ∧ m ≤ k ∧ vs.length = k ∧ s.n ≤ 64 * k ∧ PlS K w u1.heap.size s s.T m bl vo wo vs ws ls wr) (fun i _ _ => n - (intOf i).toNat)
  case atStart => exact ⟨0, Wn.zero, 0, _, _, _, _, _, _, Nat.zero_le _, rfl, rfl, Nat.le_refl _, rfl, Nat.le_refl _, H0.out⟩
  case round =>
    clear H0
    obtain ⟨k, s, m, bl, vo, wo, vs, ws, ls, hk, rfl, rfl, hm, hvk, hs, hp⟩ := hrel
    by_cases hlt : k < n
    · obtain ⟨bb, oo, rfl, hc⟩ := HC.out _ hp.bel k hlt
      have HL : Hid (∀ w', Below w.heap.size w w' → w'.cell? ⟨bb, oo + k, none⟩ = some (.int .i64 (C k))) := by
        intro w' hb
        obtain ⟨b', o', h1, h2⟩ := HC.out _ hb k hlt
        simp only [Option.some.injEq, Addr.mk.injEq] at h1
        obtain ⟨rfl, rfl, _⟩ := h1
        exact h2
      have dlt : decide ((k : Int) < (n : Int)) = true := by simp; omega
      have g0 : (0 : Int) ≤ (k : Int) := by omega
      have g1 : (k : Int) < (n : Int) := by omega
      have hwf := HW.out k hlt
      have hcb := bounds_i64 hwf
      have e64 : IntKind.i64.wrap ((s.n : Int) + 64) = (s.n : Int) + 64 := by rw [IntKind.wrap_i64]; omega
      have hlook := hp.had.look (C k) hwf
      have HP : Hid _ := hp
      have HWF : Hid _ := hwf
      clear hp hwf
      generalize C k = ck at *
      go_upto_region 10 with fail
      go_cut [10] from 34 to 57 (fun c wx => c = .bool (s.may ck) ∧ wx = wr)
      case first =>
        by_cases c1 : (s.n : Int) ≤ ck
        · have d1 : decide ((s.n : Int) ≤ ck) = true := decide_eq_true c1
          by_cases c2 : ck < (s.n : Int) + 64
          · have d2 : decide (ck < (s.n : Int) + 64) = true := decide_eq_true c2
            by_cases c3 : ck ∈ s.T
            · rw [decide_eq_true c3] at hlook
              have hmay := Wn.may_taken c3
              clear HP
              go_wp2
              go_meet
              exact ⟨by rw [hmay], rfl⟩
            · rw [decide_eq_false c3] at hlook
              have hmay := (Wn.may_iff s ck).2 ⟨c1, c2, c3⟩
              clear HP
              go_wp2
              go_meet
              exact ⟨by rw [hmay], rfl⟩
          · have d2 : decide (ck < (s.n : Int) + 64) = false := decide_eq_false c2
            have hmay : s.may ck = false := by
              cases h : s.may ck with
              | false => rfl
              | true => exact absurd ((Wn.may_iff s ck).1 h).2.1 c2
            clear HP
            go_wp2
            go_meet
            exact ⟨by rw [hmay], rfl⟩
        · have d1 : decide ((s.n : Int) ≤ ck) = false := decide_eq_false c1
          have hmay : s.may ck = false := Wn.may_low (by omega)
          clear HP
          go_wp2
          go_meet
          exact ⟨by rw [hmay], rfl⟩
      case rest =>
        obtain ⟨rfl, rfl⟩ := hcut
        have PM := HP.out.may ck (by omega) (i64w hcb.1 hcb.2)
        have q1 : (s.may ck != s.may ck) = false := by cases s.may ck <;> rfl
        have hsn2 := Wn.take_ge s ck
        have hty : Hid (s.may ck = true → s.take ck = ⟨(s.take ck).n, ck :: s.T⟩) := fun h => by
          have := Wn.take_yes h
          rw [this]
        have htn : Hid (s.may ck = false → s.take ck = s) := fun h => Wn.take_no h
        clear HP hlook
        generalize hmmx : s.may ck = mm at *
        go_wp2_with fail
        with_reducible refine PM.mono ?_
        rintro e u3 ⟨rfl, bl3, h3, _⟩
        have hc3 := HL.out _ h3.bel
        have PT := h3.take ck (by omega) (i64w hcb.1 hcb.2)
        rw [hmmx] at PT
        clear PM hc h3
        go_wp2_with fail
        with_reducible refine PT.mono ?_
        rintro e u4 ⟨rfl, bl4, h4⟩
        have hc4 := HL.out _ h4.bel
        have H4 : Hid _ := h4
        clear PT hc3 h4
        go_upto_if 76 with fail
        go_cut [10] from 77 to 81 (fun c wx => c = .bool mm ∧ ∃ m6, m6 ≤ k + 1 ∧ PlS K w u1.heap.size (s.take ck) (s.take ck).T m6 bl4 vo wo vs ws ls wx)
        case first =>
          cases mm with
          | true =>
            obtain ⟨u5, hrun, h5⟩ := H4.out.store (by omega) ck HWF.out
            have e1 := hty.out rfl
            have H5 : Hid (PlS K w u1.heap.size (s.take ck) (s.take ck).T (m + 1) bl4 vo wo vs ws ls u5) := by
              show PlS _ _ _ _ _ _ _ _ _ _ _ _ _
              have e2 : (s.take ck).T = ck :: s.T := by rw [e1]
              rw [e2]
              exact h5
            clear h5 e1 hty htn H4
            go_wp2
            go_meet
            exact ⟨rfl, m + 1, by omega, H5.out⟩
          | false =>
            have H5 : Hid (PlS K w u1.heap.size (s.take ck) (s.take ck).T m bl4 vo wo vs ws ls u4) := by
              show PlS _ _ _ _ _ _ _ _ _ _ _ _ _
              have e2 : (s.take ck).T = s.T := by rw [htn.out rfl]
              rw [e2]
              exact H4.out
            clear hty htn H4
            go_wp2
            go_meet
            exact ⟨rfl, m, by omega, H5.out⟩
        case rest =>
          obtain ⟨rfl, m6, hm6, h6⟩ := hcut
          have hs6 : (s.take ck).n ≤ 64 * (k + 1) := by omega
          have hsg := hsn2.1
          clear hty htn H4 hsn2 hmmx hc4
          generalize s.take ck = s' at *
          have H6 : Hid _ := h6
          have hok : Hid _ := h6.ok
          have hH6 : Hid _ := h6.had
          clear h6
          go_wp2_with fail
          go_loopw [6] (fun nx wx => ∃ N' : Nat, s.n ≤ N' ∧ N' ≤ s'.n ∧ nx = .int .i64 N' ∧ wx = wc) (fun nx _ => s'.n - (intOf nx).toNat)
          case atStart => exact ⟨s.n, Nat.le_refl _, hsg, rfl, rfl⟩
          case round =>
            obtain ⟨N', hN1, hN2, rfl, rfl⟩ := hrel
            have hlook := HadAt.look hH6.out (N' : Int) (WalkArith.wf_i64 (by omega))
            by_cases hNt : N' < s'.n
            · rw [decide_eq_true (hok.out.low N' hNt)] at hlook
              go_wp2
              go_roundw
              case rel => exact ⟨N' + 1, by omega, by omega, by go_num, trivial⟩
              case measure => simp [intOf]; omega
            · obtain rfl : N' = s'.n := by omega
              rw [decide_eq_false hok.out.out] at hlook
              go_wp2_with fail
              have hn6 : s'.n ≤ 64 * 201 := by omega
              have e64' : IntKind.i64.wrap ((s'.n : Int) + 64) = (s'.n : Int) + 64 := by rw [IntKind.wrap_i64]; omega
              have hS6 : Hid _ := hs6
              clear hlook hok hN1 hN2 hNt hsg hs6 e64
              obtain ⟨u6, hu6⟩ : ∃ x : World, x = wr := ⟨_, rfl⟩
              rw [← hu6] at H6 hH6 ⊢
              clear hu6
              go_loopw [11, 12] (fun v kk wx => ∃ j : Nat, j ≤ 64 ∧ kk = .int .i64 (((s'.n + j : Nat)) : Int) ∧ OwnI wx u6.heap.size v (aheadP s'.n s'.T j) ∧ Below u6.heap.size u6 wx) (fun _ kk _ => s'.n + 64 - (intOf kk).toNat)
              case atStart => exact ⟨0, Nat.zero_le _, rfl, World.ownsRow_nil _ _ _ _, Below.refl _ _⟩
              case round =>
                obtain ⟨j, hj, rfl, hown, hbel⟩ := hrel
                have hsz := hbel.size
                by_cases hjt : j < 64
                · have djt : decide (((s'.n + j : Nat) : Int) < (s'.n : Int) + 64) = true := decide_eq_true (by omega)
                  have hlook := (HadAt.below hH6.out hbel).look (((s'.n + j : Nat)) : Int) (WalkArith.wf_i64 (by omega))
                  have hAS := aheadP_succ s'.n s'.T j
                  have hAL := aheadP_len s'.n s'.T j
                  rw [show (s'.n : Int) + (j : Int) = ((s'.n + j : Nat) : Int) by omega] at hAS
                  obtain ⟨kj, hkj⟩ : ∃ kj, kj = s'.n + j := ⟨_, rfl⟩
                  rw [← hkj] at hAS djt hlook ⊢
                  have HK : Hid (kj = s'.n + j) := hkj
                  have hk2 : kj ≤ 2000000000 := by omega
                  clear hkj
                  obtain ⟨ao, co, rfl⟩ := hown.shape
                  by_cases hin : (kj : Int) ∈ s'.T
                  · rw [decide_eq_true hin] at hlook
                    rw [if_pos hin] at hAS
                    have HS : Hid _ := hAS
                    have hown' : wr.ownsRow u6.heap.size 3 1 (.slice ao (aheadP s'.n s'.T j).length co) (aheadP s'.n s'.T j).length (cellsI (aheadP s'.n s'.T j)) := hown
                    clear hAS hown hin
                    generalize aheadP s'.n s'.T j = AP at *
                    have hcl := cellsI_len AP
                    generalize hAPl : AP.length = apl at *
                    go_wp2_with (first | (at_builtin; refine wpList_append_two _ rfl (.tmp 97) (.tmp 99) 22 rfl u6.heap.size 3 i0 (.int .i64 0) 1 8 Try.underlying22 hi0 hz0 hz1 hz2 rfl (by decide) (.slice ao apl co) apl (cellsI AP) rfl (hown'.alloc _) ⟨wr.heap.size, 0, none⟩ 1 1 [.int .i64 (kj : Int)] rfl rfl (World.news_of_block (heap_alloc_new wr _)) (by intro x hx; simp at hx; subst hx; rfl) (by unfold maxLen; omega) (by omega) (by simp; omega) ?_))
                    intro v' w7 hown7 hgrow7 hat7
                    have b7 : Below u6.heap.size u6 w7 := (hbel.alloc hsz _).grown hgrow7 (by simp; omega) (fun q hq => (hown'.lt q hq).1)
                    have HO7 : Hid (OwnI w7 u6.heap.size v' (aheadP s'.n s'.T (j + 1))) := by
                      show OwnI _ _ _ _
                      unfold OwnI
                      rw [HS.out, cellsI_append, List.length_append, hAPl]
                      exact hown7
                    clear hown7 hgrow7 hat7 hown'
                    go_wp2
                    go_roundw
                    case rel => exact ⟨j + 1, by omega, by rw [HK.out]; go_num, HO7.out, b7⟩
                    case measure => simp only [intOf]; have := HK.out; omega
                  · rw [decide_eq_false hin] at hlook
                    rw [if_neg hin, List.append_nil] at hAS
                    have HS : Hid _ := hAS
                    have HO : Hid _ := hown
                    clear hAS hown hin hAL
                    go_wp2
                    go_roundw
                    case rel => exact ⟨j + 1, by omega, by rw [HK.out]; go_num, by rw [HS.out]; exact HO.out, hbel⟩
                    case measure => simp only [intOf]; have := HK.out; omega
                · obtain rfl : j = 64 := by omega
                  have djt : decide (((s'.n + 64 : Nat) : Int) < (s'.n : Int) + 64) = false := decide_eq_false (by omega)
                  have djt2 : decide ((s'.n : Int) + 64 < (s'.n : Int) + 64) = false := decide_eq_false (by omega)
                  rw [aheadP_all] at hown
                  have h7 := H6.out.below hbel
                  have hE := H6.out.made hown
                  have HE : Hid _ := hE
                  have PH := h7.ahead (by omega)
                  obtain ⟨ao, co, rfl⟩ := hown.shape
                  clear H6 hH6 hbel hown hE hsz h7
                  go_wp2_with fail
                  with_reducible refine PH.mono ?_
                  rintro e u7 ⟨a7, c7, bl7, rfl, h8, hV8, hX8⟩
                  obtain ⟨hE8, hap8⟩ := hX8 _ _ HE.out
                  have HE8 : Hid _ := hE8
                  have HAP : Hid _ := hap8
                  have PI := h8.ints hV8 (by omega) (by have := Wn.ahead_len h8.ok; omega)
                  clear PH hX8 hE8 hap8 HE h8 hV8
                  go_wp2_with fail
                  with_reducible refine PI.mono ?_
                  rintro e u8 ⟨rfl, vo9, wo9, x9, h9, hX9⟩
                  have HE9 : Hid _ := hX9 _ _ HE8.out HAP.out
                  have PN := h9.next (by omega)
                  clear PI hX9 HE8 HAP h9
                  go_wp2_with fail
                  with_reducible refine PN.mono ?_
                  rintro e u9 ⟨rfl, bl10, h10, hX10⟩
                  have hE10 := hX10 _ _ HE9.out
                  have hlv : ls.length = k := by have := h10.bk.lenV; simp at this; omega
                  have PS := h10.same (i := k) (by rw [List.getElem?_append_right (by omega), hvk, Nat.sub_self]; rfl) (by rw [List.getElem?_append_right (by omega), hlv, Nat.sub_self]; rfl) hE10
                  have H10 : Hid _ := h10
                  clear PN hX10 HE9 h10 hE10 hlv
                  go_wp2_with fail
                  with_reducible refine PS.mono ?_
                  rintro e u10 ⟨rfl, b10⟩
                  have h11 := H10.out.below b10
                  have PM := h11.may ask (by omega) (i64w hab.1 hab.2)
                  clear PS b10 H10 h11
                  go_wp2_with fail
                  with_reducible refine PM.mono ?_
                  rintro e u11 ⟨rfl, bl12, h12, _⟩
                  have hlook := h12.had.look ask HASK.out
                  have H12 : Hid _ := h12
                  clear PM h12
                  have hvl : (vs ++ [Value.slice a7 s'.ahead.length c7]).length = k + 1 := by simp [hvk]
                  have HV : Hid _ := hvl
                  clear hvl
                  by_cases c1 : (s'.n : Int) ≤ ask
                  · have f1 : decide ((s'.n : Int) ≤ ask) = true := decide_eq_true c1
                    by_cases c2 : ask < (s'.n : Int) + 64
                    · have f2 : decide (ask < (s'.n : Int) + 64) = true := decide_eq_true c2
                      by_cases c3 : ask ∈ s'.T
                      · rw [decide_eq_true c3] at hlook
                        rw [Wn.may_taken c3]
                        go_wp2
                        go_roundw
                        case rel => exact ⟨k + 1, s', m6, bl12, _, _, _, _, _, by omega, by go_num, rfl, hm6, HV.out, hS6.out, H12.out⟩
                        case measure => simp [intOf]; omega
                      · rw [decide_eq_false c3] at hlook
                        rw [(Wn.may_iff s' ask).2 ⟨c1, c2, c3⟩]
                        go_wp2
                        go_roundw
                        case rel => exact ⟨k + 1, s', m6, bl12, _, _, _, _, _, by omega, by go_num, rfl, hm6, HV.out, hS6.out, H12.out⟩
                        case measure => simp [intOf]; omega
                    · have f2 : decide (ask < (s'.n : Int) + 64) = false := decide_eq_false c2
                      have hmay : s'.may ask = false := by
                        cases h : s'.may ask with
                        | false => rfl
                        | true => exact absurd ((Wn.may_iff s' ask).1 h).2.1 c2
                      rw [hmay]
                      go_wp2
                      go_roundw
                      case rel => exact ⟨k + 1, s', m6, bl12, _, _, _, _, _, by omega, by go_num, rfl, hm6, HV.out, hS6.out, H12.out⟩
                      case measure => simp [intOf]; omega
                  · have f1 : decide ((s'.n : Int) ≤ ask) = false := decide_eq_false c1
                    rw [Wn.may_low (show ask < (s'.n : Int) by omega)]
                    go_wp2
                    go_roundw
                    case rel => exact ⟨k + 1, s', m6, bl12, _, _, _, _, _, by omega, by go_num, rfl, hm6, HV.out, hS6.out, H12.out⟩
                    case measure => simp [intOf]; omega
    · obtain rfl : k = n := by omega
      have dlt : decide ((k : Int) < (k : Int)) = false := by simp
      have HP : Hid _ := hp
      clear hp
      go_wp2_with fail
      with_reducible refine (K.mayNil _ _).mono ?_
      rintro e u3 ⟨rfl, b3⟩
      have h3 := HP.out.below b3
      clear b3 HP
      go_wp2_with fail
      with_reducible refine (K.takeNil _ _).mono ?_
      rintro e u4 ⟨rfl, b4⟩
      replace h3 := h3.below b4
      clear b4
      go_wp2_with fail
      with_reducible refine (K.nextNil _).mono ?_
      rintro e u5 ⟨rfl, b5⟩
      replace h3 := h3.below b5
      clear b5
      go_wp2_with fail
      with_reducible refine (K.aheadNil _).mono ?_
      rintro e u6 ⟨⟨a6, c6, rfl⟩, b6⟩
      replace h3 := h3.below b6
      clear b6
      have PZ := h3.apart (by omega)
      clear h3
      go_wp2_with fail
      with_reducible refine PZ.mono ?_
      rintro e u7 ⟨rfl, b7⟩
      go_wp2
      go_ret
      exact ⟨rfl, b7⟩

end Go.Proofs.Ytmpmhepaonifpaa
