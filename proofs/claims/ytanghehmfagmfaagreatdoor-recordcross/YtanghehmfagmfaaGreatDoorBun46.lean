/-
  Parts of this proof, one behind the other: WinO1.
-/
import Derived.Test.YtanghehmfagmfaaGreatDoorBun38
import Derived.Deep.RegionWith

/-
  A Window within a longer row: move and Take.
-/
namespace Go.Proofs.YtanghehmfagmfaaGreatDoor
open Go.RowKit
set_option linter.unusedVariables false
set_option maxRecDepth 100000
set_option linter.unusedSimpArgs false

set_option maxHeartbeats 1000000 in
theorem win_moveO (w : World) (p o n : Nat) (T : List Int) (B : List Bool) (t : TypeId) (l : List Value) (hr : RowIs w p t l) (hs : WinSeg o n B l) (hB : Places n T B) (hn : n ≤ 1000000) (hT : ∀ x ∈ T, x < (n : Int) + 64) :
    Calls Tryz.prog 161 #[.pointer (some ⟨p, o, none⟩)] w fun e w' => e = .returned (.tuple #[]) ∧ (∃ B' l', Places (firstW T 64 n) T B' ∧ RowIs w' p t l' ∧ WinSeg o (firstW T 64 n) B' l' ∧ WinOut o l l') ∧ Touch (fun k => k = p) w w' := by
  have PN := win_nextO w p o n B t l hr hs
  have HT : Hid _ := hT
  clear hT
  go_enter Tryz.func161, Tryz.ntmps161
  go_wp2_with fail
  with_reducible refine PN.mono ?_
  rintro e w' ⟨rfl, rfl⟩
  clear PN
  go_wp2_with fail
  go_loopw [2] (fun i wr => ∃ (m : Nat) (B' : List Bool) (l' : List Value), i = .int .i64 (m : Int) ∧ n ≤ m ∧ m ≤ n + 64 ∧ Places m T B' ∧ Hid (∀ j : Nat, n ≤ j → j < m → (j : Int) ∈ T) ∧ RowIs wr p t l' ∧ WinSeg o n B' l' ∧ WinOut o l l' ∧ Touch (fun k => k = p) w wr) (fun i _ => n + 65 - (intOf i).toNat)
  case atStart => exact ⟨n, B, l, rfl, Nat.le_refl _, by omega, hB, fun j h1 h2 => absurd h1 (by omega), hr, hs, WinOut.refl _ _, Touch.refl _ _⟩
  case round =>
    clear hr hB hs
    obtain ⟨m, B', l', rfl, h1, h2, hp, hj, hrow, hseg, hout, ht⟩ := hrel
    have hlt : m % 64 < 64 := Nat.mod_lt _ (by decide)
    have hc := hrow.cellAt (hseg.at_ (m % 64) hlt)
    have ha := places_tell hp m (Nat.le_refl _) (by omega)
    rw [ha] at hc
    clear ha
    have PP : Hid _ := fun w => win_place m w (by omega)
    by_cases hm : (m : Int) ∈ T
    · rw [decide_eq_true hm] at hc
      have hm2 : m < n + 64 := by have := HT.out _ hm; omega
      have hnew := places_step hp (fun hx => by have := HT.out _ hx; omega)
      have HJ : Hid (∀ j : Nat, n ≤ j → j < m + 1 → (j : Int) ∈ T) := fun j g1 g2 => by
        by_cases e : j = m
        · subst e; exact hm
        · exact hj.out j g1 (by omega)
      have HN : Hid _ := hnew
      have HS : Hid _ := hseg.put hp.len (m % 64) hlt false
      have HO : Hid _ := hout.put (m % 64) hlt (.bool false)
      clear hp hj hm hnew hseg hout
      generalize m % 64 = K at *
      have k0 : (0 : Int) ≤ (K : Int) := by omega
      have k1 : (K : Int) < (64 : Int) := by omega
      go_wp2_with fail
      go_quiet (first | (go_at_call 105; exact Calls.quiet_of_same (PP.out _)))
      have hrow1 := row_drewNK hrow nq
      have ht1 := ht.trans (touch_drewNW (fun k => k = p) wr nq)
      have hc1 : (wr.drewN nq).cell? ⟨p, o + 1 + K, none⟩ = some (.bool true) := by rw [hrow1.cell, ← hrow.cell]; exact hc
      clear hc hrow ht
      generalize wr.drewN nq = w1 at *
      have hz := hrow1.frozen (o + 1 + K)
      have hrow2 := hrow1.set (o + 1 + K) (.bool false)
      have ht2 := ht1.set (p := ⟨p, o + 1 + K, none⟩) (Or.inl rfl) (.bool false)
      have HR2 : Hid _ := hrow2
      have HT2 : Hid _ := ht2
      clear hrow1 hrow2 ht1 ht2
      go_wp2_with fail
      go_region_with (first | (go_at_call 105; with_reducible refine (PP.out _).mono ?_; rintro e w' ⟨rfl, rfl⟩))
      all_goals
        go_wp2
        go_roundw
        case rel => exact ⟨m + 1, _, _, by go_num, by omega, by omega, HN.out, HJ, by first | exact HR2.out | exact HR2.out.drew, HS.out, HO.out, by first | exact HT2.out | exact HT2.out.drew⟩
        case measure => simp [intOf]; omega
    · rw [decide_eq_false hm] at hc
      have hf : firstW T 64 n = m := firstW_is T 64 n m h1 (fun j g1 g2 => hj.out j g1 g2) hm (fun x hx => HT.out x hx)
      have HF : Hid (firstW T 64 n = m) := hf
      have HP : Hid _ := hp
      have HS : Hid _ := hseg.go m
      have HO : Hid _ := hout.go (.int .i64 (m : Int))
      have hnx := hseg.nxt
      clear hp hj hm hf hseg hout
      generalize m % 64 = K at *
      have k0 : (0 : Int) ≤ (K : Int) := by omega
      have k1 : (K : Int) < (64 : Int) := by omega
      go_wp2_with fail
      go_quiet (first | (go_at_call 105; exact Calls.quiet_of_same (PP.out _)))
      have hrow1 := row_drewNK hrow nq
      have ht1 := ht.trans (touch_drewNW (fun k => k = p) wr nq)
      clear hc hrow ht
      generalize wr.drewN nq = w1 at *
      have PS := i64_storeW ⟨p, o, none⟩ n m w1 (hrow1.cellAt hnx) (hrow1.frozen o)
      clear hnx
      go_wp2_with fail
      with_reducible refine PS.mono ?_
      rintro e w2 ⟨rfl, rfl⟩
      go_wp2
      go_end0
      rw [HF.out]
      exact ⟨rfl, ⟨B', _, HP.out, hrow1.set o _, HS.out, HO.out⟩, ht1.set (p := ⟨p, o, none⟩) (Or.inl rfl) _⟩

set_option maxHeartbeats 1000000 in
/-- A number that may come is taken. -/
theorem win_takeO (w : World) (p o n : Nat) (T : List Int) (B : List Bool) (y : Nat) (t : TypeId) (l : List Value) (hr : RowIs w p t l) (hs : WinSeg o n B l) (hB : Places n T B) (hn : n ≤ 1000000) (hT : ∀ x ∈ T, x < (n : Int) + 64)
    (h1 : n ≤ y) (h2 : y < n + 64) (h3 : (y : Int) ∉ T) :
    Calls Tryz.prog 111 #[.pointer (some ⟨p, o, none⟩), .int .i64 (y : Int)] w fun e w' => e = .returned (.bool true) ∧
      (∃ B' l', Places (firstW ((y : Int) :: T) 64 n) ((y : Int) :: T) B' ∧ RowIs w' p t l' ∧ WinSeg o (firstW ((y : Int) :: T) 64 n) B' l' ∧ WinOut o l l') ∧ Touch (fun k => k = p) w w' := by
  have PM := win_mayO w p o n T B (y : Int) t l hr hs hB hn (by unfold I64W; omega)
  rw [decide_eq_true (show (n : Int) ≤ (y : Int) ∧ (y : Int) < (n : Int) + 64 ∧ (y : Int) ∉ T from ⟨by omega, by omega, h3⟩)] at PM
  have hlt : y % 64 < 64 := Nat.mod_lt _ (by decide)
  have hnew := places_come hB y (by omega) (by omega)
  have HM : Hid _ := fun (w : World) (l2 : List Value) (hr : RowIs w p t l2) (hs : WinSeg o n (B.set (y % 64) true) l2) => win_moveO w p o n ((y : Int) :: T) (B.set (y % 64) true) t l2 hr hs hnew hn (fun z hz => by
    rcases List.mem_cons.1 hz with rfl | hz
    · omega
    · exact hT z hz)
  have PP : Hid _ := fun w => win_place y w (by omega)
  have HS : Hid _ := hs.put hB.len (y % 64) hlt true
  have HO : Hid _ := (WinOut.refl o l).put (y % 64) hlt (.bool true)
  have hc0 := hs.at_ (y % 64) hlt
  clear hB hs hnew h3 hT
  generalize (y : Int) :: T = T' at *
  generalize B.set (y % 64) true = B2 at *
  generalize hu : B.getD (y % 64) false = u at *
  generalize y % 64 = K at *
  clear hu
  have k0 : (0 : Int) ≤ (K : Int) := by omega
  have k1 : (K : Int) < (64 : Int) := by omega
  go_enter Tryz.func111, Tryz.ntmps111
  go_wp2_with fail
  with_reducible refine PM.mono ?_
  rintro e w' ⟨rfl, q, rfl⟩
  have hrow1 := row_drewNK hr q
  have ht1 := touch_drewNW (fun k => k = p) w q
  clear hr PM
  generalize w.drewN q = w1 at *
  have hz := hrow1.frozen (o + 1 + K)
  have hu := hrow1.cellAt hc0
  have hrow2 := hrow1.set (o + 1 + K) (.bool true)
  have ht2 := ht1.set (p := ⟨p, o + 1 + K, none⟩) (Or.inl rfl) (.bool true)
  have HR2 : Hid _ := hrow2
  have HT2 : Hid _ := ht2
  clear hrow1 hrow2 ht1 ht2 hc0
  go_wp2_with fail
  go_region_with (first | (go_at_call 105; with_reducible refine (PP.out _).mono ?_; rintro e w' ⟨rfl, rfl⟩))
  all_goals
    go_wp2_with fail
    with_reducible refine (HM.out _ _ ?_ HS.out).mono ?_
    · exact HR2.out
    rintro e w3 ⟨rfl, ⟨B3, l3, q1, q2, q3, q4⟩, t3⟩
    go_wp2
    go_ret
    exact ⟨rfl, ⟨B3, l3, q1, q2, q3, HO.out.trans q4⟩, by first | exact HT2.out.trans t3 | exact HT2.out.drew.trans t3⟩

end Go.Proofs.YtanghehmfagmfaaGreatDoor
