/-
  Package window: move and Take.
-/
import Derived.Test.YtmpmhepaonifpaaWinK2
import Derived.Deep.RegionWith
namespace Go.Proofs.Ytmpmhepaonifpaa
open Go.RowKit
set_option linter.unusedVariables false
set_option maxRecDepth 100000
set_option linter.unusedSimpArgs false

set_option maxHeartbeats 1000000 in
theorem win_move (w : World) (p n : Nat) (T : List Int) (B : List Bool) (hr : RowIs w p 32 (winRow n B)) (hB : Places n T B) (hn : n ≤ 1000000) (hT : ∀ x ∈ T, x < (n : Int) + 64) :
    Calls Try.prog 18 #[.pointer (some ⟨p, 0, none⟩)] w fun e w' => e = .returned (.tuple #[]) ∧ (∃ B', Places (firstW T 64 n) T B' ∧ RowIs w' p 32 (winRow (firstW T 64 n) B')) ∧ Touch (fun k => k = p) w w' := by
  have PN := win_next w p n B hr
  have HT : Hid _ := hT
  clear hT
  go_enter Try.func18, Try.ntmps18
  go_wp2_with fail
  with_reducible refine PN.mono ?_
  rintro e w' ⟨rfl, rfl⟩
  clear PN
  go_wp2_with fail
  go_loopw [2] (fun i wr => ∃ (m : Nat) (B' : List Bool), i = .int .i64 (m : Int) ∧ n ≤ m ∧ m ≤ n + 64 ∧ Places m T B' ∧ Hid (∀ j : Nat, n ≤ j → j < m → (j : Int) ∈ T) ∧ RowIs wr p 32 (winRow n B') ∧ Touch (fun k => k = p) w wr) (fun i _ => n + 65 - (intOf i).toNat)
  case atStart => exact ⟨n, B, rfl, Nat.le_refl _, by omega, hB, fun j h1 h2 => absurd h1 (by omega), hr, Touch.refl _ _⟩
  case round =>
    clear hr hB
    obtain ⟨m, B', rfl, h1, h2, hp, hj, hrow, ht⟩ := hrel
    have hlt : m % 64 < 64 := Nat.mod_lt _ (by decide)
    have hc := hrow.cellAt (winRow_at n B' (m % 64) (by rw [hp.len]; exact hlt))
    have ha := places_tell hp m (Nat.le_refl _) (by omega)
    rw [ha] at hc
    clear ha
    have PP : Hid _ := fun w => win_place m w (by omega)
    by_cases hm : (m : Int) ∈ T
    · rw [decide_eq_true hm] at hc
      have hm2 : m < n + 64 := by have := HT.out _ hm; omega
      have hnew := places_step hp (fun hx => by have := HT.out _ hx; omega)
      have HJ : Hid (∀ j : Nat, n ≤ j → j < m + 1 → (j : Int) ∈ T) := fun j g1 g2 => by
        by_cases e : j = m
        · subst e; exact hm
        · exact hj.out j g1 (by omega)
      have HN : Hid _ := hnew
      have hset := winRow_set n B' (m % 64) false
      have HS : Hid _ := hset
      clear hp hj hm hnew hset
      generalize m % 64 = K at *
      have k0 : (0 : Int) ≤ (K : Int) := by omega
      have k1 : (K : Int) < (64 : Int) := by omega
      go_wp2_with fail
      go_quiet (first | (go_at_call 17; exact Calls.quiet_of_same (PP.out _)))
      have hrow1 := row_drewNK hrow nq
      have ht1 := ht.trans (touch_drewNW (fun k => k = p) wr nq)
      clear hc hrow ht
      generalize wr.drewN nq = w1 at *
      have hz := hrow1.frozen (1 + K)
      obtain ⟨u, hu⟩ : ∃ u, w1.cell? ⟨p, 1 + K, none⟩ = some u := ⟨_, hrow1.cellAt (List.getElem?_eq_getElem (by rw [← List.length_set (i := 1 + K) (a := Value.bool false), HS.out]; unfold winRow; rw [List.length_cons, List.length_map, HN.out.len]; omega))⟩
      have hrow2 := hrow1.set (1 + K) (.bool false)
      rw [HS.out] at hrow2
      have ht2 := ht1.set (p := ⟨p, 1 + K, none⟩) (Or.inl rfl) (.bool false)
      have HR2 : Hid _ := hrow2
      have HT2 : Hid _ := ht2
      clear hrow1 hrow2 ht1 ht2
      go_wp2_with fail
      go_region_with (first | (go_at_call 17; with_reducible refine (PP.out _).mono ?_; rintro e w' ⟨rfl, rfl⟩))
      all_goals
        go_wp2
        go_roundw
        case rel => exact ⟨m + 1, _, by go_num, by omega, by omega, HN.out, HJ, by first | exact HR2.out | exact HR2.out.drew, by first | exact HT2.out | exact HT2.out.drew⟩
        case measure => simp [intOf]; omega
    · rw [decide_eq_false hm] at hc
      have hf : firstW T 64 n = m := firstW_is T 64 n m h1 (fun j g1 g2 => hj.out j g1 g2) hm (fun x hx => HT.out x hx)
      have HF : Hid (firstW T 64 n = m) := hf
      have HP : Hid _ := hp
      clear hp hj hm hf
      generalize m % 64 = K at *
      have k0 : (0 : Int) ≤ (K : Int) := by omega
      have k1 : (K : Int) < (64 : Int) := by omega
      go_wp2_with fail
      go_quiet (first | (go_at_call 17; exact Calls.quiet_of_same (PP.out _)))
      have hrow1 := row_drewNK hrow nq
      have ht1 := ht.trans (touch_drewNW (fun k => k = p) wr nq)
      clear hc hrow ht
      generalize wr.drewN nq = w1 at *
      have PS := i64_storeW ⟨p, 0, none⟩ n m w1 (hrow1.cellAt (winRow_zero n B')) (hrow1.frozen 0)
      go_wp2_with fail
      with_reducible refine PS.mono ?_
      rintro e w2 ⟨rfl, rfl⟩
      go_wp2
      go_end0
      rw [HF.out]
      exact ⟨rfl, ⟨B', HP.out, hrow1.set 0 _⟩, ht1.set (p := ⟨p, 0, none⟩) (Or.inl rfl) _⟩

set_option maxHeartbeats 1000000 in
theorem win_take (w : World) (p : Nat) (s : Wn) (B : List Bool) (x : Int) (hs : s.Ok) (hr : RowIs w p 32 (winRow s.n B)) (hB : Places s.n s.T B) (hn : s.n ≤ 1000000) (hx : I64W x) :
    Calls Try.prog 10 #[.pointer (some ⟨p, 0, none⟩), .int .i64 x] w fun e w' => e = .returned (.bool (s.may x)) ∧ (∃ B', Places (s.take x).n (s.take x).T B' ∧ RowIs w' p 32 (winRow (s.take x).n B')) ∧ Touch (fun k => k = p) w w' := by
  have PM := win_may w p s B x hr hB hn hx
  cases hm : s.may x with
  | false =>
    rw [hm] at PM
    rw [Wn.take_no hm]
    have HB : Hid _ := hB
    clear hB hm hs
    go_enter Try.func10, Try.ntmps10
    go_wp2_with fail
    with_reducible refine PM.mono ?_
    rintro e w' ⟨rfl, q, rfl⟩
    go_wp2
    go_ret
    exact ⟨rfl, ⟨B, HB.out, row_drewNK hr q⟩, touch_drewNW _ _ _⟩
  | true =>
    rw [hm] at PM
    rw [Wn.take_yes hm]
    obtain ⟨h1, h2, h3⟩ := (Wn.may_iff s x).1 hm
    obtain ⟨y, rfl⟩ : ∃ y : Nat, x = (y : Int) := ⟨x.toNat, by omega⟩
    have hlt : y % 64 < 64 := Nat.mod_lt _ (by decide)
    have hnew := places_come hB y (by omega) (by omega)
    have HM : Hid _ := fun (w : World) (hr : RowIs w p 32 (winRow s.n (B.set (y % 64) true))) => win_move w p s.n ((y : Int) :: s.T) (B.set (y % 64) true) hr hnew hn (fun z hz => by
      rcases List.mem_cons.1 hz with rfl | hz
      · exact h2
      · exact (hs.range z hz).2)
    have PP : Hid _ := fun w => win_place y w (by omega)
    have HS : Hid _ := winRow_set s.n B (y % 64) true
    have hlen := hB.len
    show Calls _ _ _ _ fun e w' => e = .returned (.bool true) ∧ (∃ B', Places (firstW ((y : Int) :: s.T) 64 s.n) ((y : Int) :: s.T) B' ∧ RowIs w' p 32 (winRow (firstW ((y : Int) :: s.T) 64 s.n) B')) ∧ Touch (fun k => k = p) w w'
    clear hB hs hm hnew h3
    generalize (y : Int) :: s.T = T' at *
    generalize B.set (y % 64) true = B2 at *
    generalize y % 64 = K at *
    have k0 : (0 : Int) ≤ (K : Int) := by omega
    have k1 : (K : Int) < (64 : Int) := by omega
    go_enter Try.func10, Try.ntmps10
    go_wp2_with fail
    with_reducible refine PM.mono ?_
    rintro e w' ⟨rfl, q, rfl⟩
    have hrow1 := row_drewNK hr q
    have ht1 := touch_drewNW (fun k => k = p) w q
    clear hr PM
    generalize w.drewN q = w1 at *
    have hz := hrow1.frozen (1 + K)
    have hu := hrow1.cellAt (winRow_at s.n B K (by rw [hlen]; exact hlt))
    have hrow2 := hrow1.set (1 + K) (.bool true)
    rw [HS.out] at hrow2
    have ht2 := ht1.set (p := ⟨p, 1 + K, none⟩) (Or.inl rfl) (.bool true)
    have HR2 : Hid _ := hrow2
    have HT2 : Hid _ := ht2
    clear hrow1 hrow2 ht1 ht2
    go_wp2_with fail
    go_region_with (first | (go_at_call 17; with_reducible refine (PP.out _).mono ?_; rintro e w' ⟨rfl, rfl⟩))
    all_goals
      go_wp2_with fail
      with_reducible refine (HM.out _ ?_).mono ?_
      · exact HR2.out
      rintro e w3 ⟨rfl, hb3, t3⟩
      go_wp2
      go_ret
      exact ⟨rfl, hb3, by first | exact HT2.out.trans t3 | exact HT2.out.drew.trans t3⟩

end Go.Proofs.Ytmpmhepaonifpaa
