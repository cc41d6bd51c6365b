/-
  Parts of this proof, one behind the other: WinK1, WinO0, WinK2, WinK4, WinO2.
-/
import Derived.Test.YtanghehmfagmfaaGreatDoorBun35
import Derived.Laws.LoneSync
import Derived.BigQuiet
import Derived.RegionTactic

/-
  Package window: next, place, isNear, May, move, Take, Ahead.
-/
namespace Go.Proofs.YtanghehmfagmfaaGreatDoor
open Go.RowKit
set_option linter.unusedVariables false
set_option maxRecDepth 100000
set_option linter.unusedSimpArgs false

theorem i64_loadW (a : Addr) (x : Int) (w : World) (hc : w.cell? a = some (.int .i64 x)) :
    Calls Tryz.prog 42 #[.pointer (some a)] w fun e w' => e = .returned (.int .i64 x) ∧ w = w' := by
  have hl := run_call_load (P := Tryz.prog) Tryz.func103 (by kernel_rfl) (by kernel_rfl) (by kernel_rfl) .i64 (by kernel_rfl) hc
  go_enter Tryz.func42, Tryz.ntmps42
  go_wp2
  go_ret
  exact ⟨rfl, rfl⟩
theorem i64_storeW (a : Addr) (x y : Int) (w : World) (hc : w.cell? a = some (.int .i64 x)) (hz : w.frozen? a = false) :
    Calls Tryz.prog 193 #[.pointer (some a), .int .i64 y] w fun e w' => e = .returned (.tuple #[]) ∧ w' = w.setCell a (.int .i64 y) := by
  have hl := run_call_store (P := Tryz.prog) Tryz.func214 (by kernel_rfl) (by kernel_rfl) (by kernel_rfl) (by kernel_rfl) (k := .i64) (y := y) hc hz
  go_enter Tryz.func193, Tryz.ntmps193
  go_wp2
  go_end0
  exact ⟨rfl, rfl⟩

theorem bel_drewNK (w : World) (m : Nat) : Below w.heap.size w (w.drewN m) := (touch_drewNW (fun _ => False) w m).below (fun _ h => h.elim) (Nat.le_refl _)
theorem row_drewNK {w : World} {p : Nat} {t : TypeId} {l : List Value} (h : RowIs w p t l) (m : Nat) : RowIs (w.drewN m) p t l := h.below (bel_drewNK w m) h.lt

theorem win_place (x : Nat) (w : World) (hx : x ≤ 2000000) : Calls Tryz.prog 105 #[.int .i64 (x : Int)] w fun e w' => e = .returned (.int .i64 ((x % 64 : Nat) : Int)) ∧ w' = w := by
  have e := tmod_place x
  generalize x % 64 = K at *
  go_enter Tryz.func105, Tryz.ntmps105
  go_wp2
  go_ret
  exact ⟨rfl, rfl⟩
end Go.Proofs.YtanghehmfagmfaaGreatDoor

/-
  A Window within a longer row, plain: its cells lie from o on.
-/
namespace Go.Proofs.YtanghehmfagmfaaGreatDoor
open Go.RowKit
set_option linter.unusedVariables false
set_option maxRecDepth 100000
set_option linter.unusedSimpArgs false

structure WinSeg (o n : Nat) (B : List Bool) (l : List Value) : Prop where
  nxt : l[o]? = some (.int .i64 (n : Int))
  at_ : ∀ j, j < 64 → l[o + 1 + j]? = some (.bool (B.getD j false))
/-- Beside a Window's cells a row is as it was. -/
structure WinOut (o : Nat) (l l' : List Value) : Prop where
  len : l'.length = l.length
  out : ∀ i, ¬ (o ≤ i ∧ i < o + 65) → l'[i]? = l[i]?
section
variable {o n : Nat} {B : List Bool} {l l' l2 : List Value}
theorem WinSeg.lt (h : WinSeg o n B l) (j : Nat) (hj : j < 64) : o + 1 + j < l.length := (List.getElem?_eq_some_iff.1 (h.at_ j hj)).1
theorem WinSeg.put (h : WinSeg o n B l) (hB : B.length = 64) (j : Nat) (hj : j < 64) (v : Bool) : WinSeg o n (B.set j v) (l.set (o + 1 + j) (.bool v)) := by
  refine ⟨by rw [List.getElem?_set_ne (by omega)]; exact h.nxt, fun i hi => ?_⟩
  by_cases e : j = i
  · subst e
    rw [List.getElem?_set_self (h.lt j hj), getD_set_self _ _ _ (by omega)]
  · rw [List.getElem?_set_ne (by omega), getD_set_other _ _ _ _ e]; exact h.at_ i hi
theorem WinSeg.go (h : WinSeg o n B l) (m : Nat) : WinSeg o m B (l.set o (.int .i64 (m : Int))) :=
  ⟨List.getElem?_set_self (List.getElem?_eq_some_iff.1 h.nxt).1, fun j hj => by rw [List.getElem?_set_ne (by omega)]; exact h.at_ j hj⟩
theorem WinSeg.keep (h : WinSeg o n B l) (h2 : ∀ i, o ≤ i → i < o + 65 → l'[i]? = l[i]?) : WinSeg o n B l' :=
  ⟨by rw [h2 o (by omega) (by omega)]; exact h.nxt, fun j hj => by rw [h2 _ (by omega) (by omega)]; exact h.at_ j hj⟩
theorem WinOut.refl (o : Nat) (l : List Value) : WinOut o l l := ⟨rfl, fun _ _ => rfl⟩
theorem WinOut.trans (h : WinOut o l l') (h2 : WinOut o l' l2) : WinOut o l l2 := ⟨h2.len.trans h.len, fun i hi => (h2.out i hi).trans (h.out i hi)⟩
theorem WinOut.set (h : WinOut o l l') (j : Nat) (hj : j < 65) (v : Value) : WinOut o l (l'.set (o + j) v) :=
  ⟨by rw [List.length_set]; exact h.len, fun i hi => by rw [List.getElem?_set_ne (by omega)]; exact h.out i hi⟩
theorem WinOut.put (h : WinOut o l l') (j : Nat) (hj : j < 64) (v : Value) : WinOut o l (l'.set (o + 1 + j) v) :=
  ⟨by rw [List.length_set]; exact h.len, fun i hi => by rw [List.getElem?_set_ne (by omega)]; exact h.out i hi⟩
theorem WinOut.go (h : WinOut o l l') (v : Value) : WinOut o l (l'.set o v) :=
  ⟨by rw [List.length_set]; exact h.len, fun i hi => by rw [List.getElem?_set_ne (by omega)]; exact h.out i hi⟩
end

/-- What is among T of those that are near is all that counts. -/
theorem Places.same {n : Nat} {T T' : List Int} {B : List Bool} (h : Places n T B) (hT : ∀ j : Nat, j < 64 → ((n : Int) + (j : Int) ∈ T ↔ (n : Int) + (j : Int) ∈ T')) : Places n T' B :=
  ⟨h.len, fun j hj => by rw [h.at_ j hj]; exact decide_eq_decide.2 (hT j hj)⟩

theorem win_nextO (w : World) (p o n : Nat) (B : List Bool) (t : TypeId) (l : List Value) (hr : RowIs w p t l) (hs : WinSeg o n B l) :
    Calls Tryz.prog 51 #[.pointer (some ⟨p, o, none⟩)] w fun e w' => e = .returned (.int .i64 (n : Int)) ∧ w = w' := by
  have PL := i64_loadW ⟨p, o, none⟩ n w (hr.cellAt hs.nxt)
  clear hr hs
  go_enter Tryz.func51, Tryz.ntmps51
  go_wp2_with fail
  with_reducible refine PL.mono ?_
  rintro e w' ⟨rfl, rfl⟩
  go_wp2
  go_ret
  exact ⟨rfl, rfl⟩
theorem win_nearO (w : World) (p o n : Nat) (B : List Bool) (x : Int) (t : TypeId) (l : List Value) (hr : RowIs w p t l) (hs : WinSeg o n B l) (hn : n ≤ 1000000) (hx : I64W x) :
    Calls Tryz.prog 104 #[.pointer (some ⟨p, o, none⟩), .int .i64 x] w fun e w' => e = .returned (.bool (decide ((n : Int) ≤ x ∧ x < (n : Int) + 64))) ∧ w' = w := by
  have PN := win_nextO w p o n B t l hr hs
  clear hr hs
  obtain ⟨h1, h2⟩ := hx
  by_cases h : (n : Int) ≤ x
  · by_cases h3 : x < (n : Int) + 64
    · have d0 : decide ((n : Int) ≤ x ∧ x < (n : Int) + 64) = true := decide_eq_true ⟨h, h3⟩
      rw [d0]
      go_enter Tryz.func104, Tryz.ntmps104
      go_wp2_with fail
      with_reducible refine PN.mono ?_
      rintro e w' ⟨rfl, rfl⟩
      have d1 : decide ((n : Int) ≤ x) = true := decide_eq_true h
      have e2 : IntKind.i64.wrap (x - (n : Int)) = x - (n : Int) := by rw [IntKind.wrap_i64]; omega
      have d2 : decide (x - (n : Int) < 64) = true := decide_eq_true (by omega)
      go_wp2
      go_ret
      exact ⟨rfl, rfl⟩
    · have d0 : decide ((n : Int) ≤ x ∧ x < (n : Int) + 64) = false := decide_eq_false (fun hh => h3 hh.2)
      rw [d0]
      go_enter Tryz.func104, Tryz.ntmps104
      go_wp2_with fail
      with_reducible refine PN.mono ?_
      rintro e w' ⟨rfl, rfl⟩
      have d1 : decide ((n : Int) ≤ x) = true := decide_eq_true h
      have e2 : IntKind.i64.wrap (x - (n : Int)) = x - (n : Int) := by rw [IntKind.wrap_i64]; omega
      have d2 : decide (x - (n : Int) < 64) = false := decide_eq_false (by omega)
      go_wp2
      go_ret
      exact ⟨rfl, rfl⟩
  · have d0 : decide ((n : Int) ≤ x ∧ x < (n : Int) + 64) = false := decide_eq_false (fun hh => h hh.1)
    rw [d0]
    go_enter Tryz.func104, Tryz.ntmps104
    go_wp2_with fail
    with_reducible refine PN.mono ?_
    rintro e w' ⟨rfl, rfl⟩
    have d1 : decide ((n : Int) ≤ x) = false := decide_eq_false (by omega)
    go_wp2
    go_ret
    exact ⟨rfl, rfl⟩

set_option maxHeartbeats 1000000 in
theorem win_mayO (w : World) (p o n : Nat) (T : List Int) (B : List Bool) (x : Int) (t : TypeId) (l : List Value) (hr : RowIs w p t l) (hs : WinSeg o n B l) (hB : Places n T B) (hn : n ≤ 1000000) (hx : I64W x) :
    Calls Tryz.prog 44 #[.pointer (some ⟨p, o, none⟩), .int .i64 x] w fun e w' => e = .returned (.bool (decide ((n : Int) ≤ x ∧ x < (n : Int) + 64 ∧ x ∉ T))) ∧ ∃ m, w' = w.drewN m := by
  have PN : Hid _ := fun m => win_nearO (w.drewN m) p o n B x t l (row_drewNK hr m) hs hn hx
  by_cases h : (n : Int) ≤ x ∧ x < (n : Int) + 64
  · obtain ⟨y, rfl⟩ : ∃ y : Nat, x = (y : Int) := ⟨x.toNat, by omega⟩
    have hb := places_tell hB y (by omega) (by omega)
    have hlt : y % 64 < 64 := Nat.mod_lt _ (by decide)
    have hc := hr.cellAt (hs.at_ (y % 64) hlt)
    have PP : Hid _ := fun m => win_place y (w.drewN m) (by omega)
    have em : decide ((n : Int) ≤ (y : Int) ∧ (y : Int) < (n : Int) + 64 ∧ (y : Int) ∉ T) = !decide ((y : Int) ∈ T) := by
      by_cases ht : (y : Int) ∈ T
      · rw [decide_eq_true ht, decide_eq_false (fun hh => hh.2.2 ht)]; rfl
      · rw [decide_eq_false ht, decide_eq_true ⟨h.1, h.2, ht⟩]; rfl
    rw [em]
    rw [hb] at hc
    have d0 : decide ((n : Int) ≤ (y : Int) ∧ (y : Int) < (n : Int) + 64) = true := decide_eq_true h
    rw [d0] at PN
    clear d0 hb em hr hs hB hx h
    generalize decide ((y : Int) ∈ T) = b at *
    generalize y % 64 = K at *
    have k0 : (0 : Int) ≤ (K : Int) := by omega
    have k1 : (K : Int) < (64 : Int) := by omega
    go_enter Tryz.func44, Tryz.ntmps44
    go_wp2_with fail
    go_quiet (first | (go_at_call 104; exact Calls.quiet_of_same (PN.out _)) | (go_at_call 105; exact Calls.quiet_of_same (PP.out _)))
    go_wp2
    go_ret
    exact ⟨rfl, _, rfl⟩
  · have em : decide ((n : Int) ≤ x ∧ x < (n : Int) + 64 ∧ x ∉ T) = false := decide_eq_false (fun hh => h ⟨hh.1, hh.2.1⟩)
    rw [em]
    have d0 : decide ((n : Int) ≤ x ∧ x < (n : Int) + 64) = false := decide_eq_false h
    rw [d0] at PN
    clear d0 em hr hs hB hx h
    go_enter Tryz.func44, Tryz.ntmps44
    go_wp2_with fail
    go_quiet (first | (go_at_call 104; exact Calls.quiet_of_same (PN.out _)))
    go_wp2
    go_ret
    exact ⟨rfl, _, rfl⟩

end Go.Proofs.YtanghehmfagmfaaGreatDoor

/-
  Package window: May, move, Take.
-/
namespace Go.Proofs.YtanghehmfagmfaaGreatDoor
open Go.RowKit
set_option linter.unusedVariables false
set_option maxRecDepth 100000
set_option linter.unusedSimpArgs false

end Go.Proofs.YtanghehmfagmfaaGreatDoor

/-
  Package window: Ahead.
-/
namespace Go.Proofs.YtanghehmfagmfaaGreatDoor
open Go.RowKit
set_option linter.unusedVariables false
set_option maxRecDepth 100000
set_option linter.unusedSimpArgs false

theorem row_touchW {w w' : World} {p : Nat} {t : TypeId} {l : List Value} (h : RowIs w p t l) (ht : Touch (fun _ => False) w w') : RowIs w' p t l := by
  have hl := h.lt
  unfold RowIs at *
  rw [ht.block p hl (fun x => x)]; exact h
theorem own_drewNW {w : World} {base : Nat} {v : Value} {l : List Int} (h : OwnI w base v l) (m : Nat) : OwnI (w.drewN m) base v l := h.below (bel_drewNK w m)
theorem own_moreW {w : World} {base : Nat} {v' : Value} {l : List Int} {x : Int} (h : w.ownsRow base 3 1 v' (l.length + 1) (cellsI l ++ [.int .i64 x])) : OwnI w base v' (l ++ [x]) := by
  unfold OwnI
  rw [List.length_append, cellsI_append]
  exact h

end Go.Proofs.YtanghehmfagmfaaGreatDoor

/-
  A Window within a longer row: Ahead.
-/
namespace Go.Proofs.YtanghehmfagmfaaGreatDoor
open Go.RowKit
set_option linter.unusedVariables false
set_option maxRecDepth 100000
set_option linter.unusedSimpArgs false

set_option maxHeartbeats 1000000 in
theorem win_aheadO (w : World) (p o n : Nat) (T : List Int) (B : List Bool) (t : TypeId) (ll : List Value) (hr : RowIs w p t ll) (hs : WinSeg o n B ll) (hB : Places n T B) (hn : n ≤ 1000000) :
    Calls Tryz.prog 52 #[.pointer (some ⟨p, o, none⟩)] w fun e w' => ∃ v, e = .returned v ∧ OwnI w' w.heap.size v (aheadTo n T 64) ∧ Touch (fun _ => False) w w' := by
  obtain ⟨i0, hi0, hz0, hz1, hz2⟩ := info_parts infoI
  have PN := win_nextO w p o n B t ll hr hs
  go_enter Tryz.func52, Tryz.ntmps52
  go_wp2_with fail
  with_reducible refine PN.mono ?_
  rintro e w' ⟨rfl, rfl⟩
  clear PN
  go_wp2_with fail
  go_loopw [3, 5] (fun v i wr => ∃ (k : Nat), i = .int .i64 ((n + k : Nat) : Int) ∧ k ≤ 64 ∧ OwnI wr w.heap.size v (aheadTo n T k) ∧ Touch (fun _ => False) w wr) (fun _ i _ => 64 + n - (intOf i).toNat)
  case atStart => exact ⟨0, rfl, Nat.zero_le _, ⟨rfl, Or.inl ⟨rfl, rfl⟩⟩, Touch.refl _ _⟩
  case round =>
    obtain ⟨k, rfl, hk, hown, ht⟩ := hrel
    by_cases hk2 : k < 64
    · have hrow := row_touchW hr ht
      obtain ⟨m, hm⟩ : ∃ m, n + k = m := ⟨_, rfl⟩
      have hlt : m % 64 < 64 := Nat.mod_lt _ (by decide)
      have hc := hrow.cellAt (hs.at_ (m % 64) hlt)
      rw [places_tell hB m (by omega) (by omega)] at hc
      have PP : Hid _ := fun w => win_place m w (by omega)
      have hle := aheadTo_len n T k
      have d1 : decide ((m : Int) < (n : Int) + 64) = true := decide_eq_true (by omega)
      by_cases hmT : (m : Int) ∈ T
      · rw [decide_eq_true hmT] at hc
        have hA : aheadTo n T (k + 1) = aheadTo n T k ++ [(m : Int)] := by
          have := aheadTo_yes (n := n) (T := T) (i := k) (by rw [hm]; exact hmT)
          rw [hm] at this
          exact this
        have HA : Hid _ := hA
        have HM : Hid (n + k = m) := hm
        have hm2 : m ≤ n + 63 := by omega
        have hm3 : n ≤ m := by omega
        rw [hm]
        clear hA hmT hrow hm
        generalize aheadTo n T k = l at *
        generalize m % 64 = K at *
        have k0 : (0 : Int) ≤ (K : Int) := by omega
        have k1 : (K : Int) < (64 : Int) := by omega
        go_wp2_with fail
        go_quiet (first | (go_at_call 105; exact Calls.quiet_of_same (PP.out _)))
        have hown1 := own_drewNW hown nq
        have ht1 := ht.trans (touch_drewNW (fun _ => False) wr nq)
        clear hc hown ht
        generalize wr.drewN nq = w1 at *
        obtain ⟨ao, cap, rfl⟩ := hown1.shape
        have hbs := ht1.size
        have HT1 : Hid _ := ht1
        go_wp2_with (first | (at_builtin; refine wpList_append_two _ rfl (.tmp 24) (.tmp 26) 30 rfl w.heap.size 3 i0 (.int .i64 0) 1 8 Tryz.underlying30 hi0 hz0 hz1 hz2 rfl (by decide) (.slice ao l.length cap) l.length (cellsI l) rfl (World.ownsRow.alloc hown1 _) ⟨w1.heap.size, 0, none⟩ 1 1 [.int .i64 (m : Int)] rfl rfl (cell_one_new w1 (.int .i64 (m : Int)) 3) (by intro u hu; simp at hu; rw [hu]; rfl) (by unfold maxLen; omega) (by omega) (by simp; omega) ?_))
        intro v' w3 ho3 hg3 hat3
        have hown4 := own_moreW ho3
        have ht3 : Touch (fun _ => False) w w3 := (HT1.out.alloc _).grown hg3 (fun q hq => Or.inr (World.ownsRow.lt hown1 q hq).1)
        clear ho3 hg3 hat3
        go_wp2
        go_roundw
        case rel => exact ⟨k + 1, by rw [← HM.out]; go_num, hk2, by rw [HA.out]; exact hown4, ht3⟩
        case measure => simp [intOf]; omega
      · rw [decide_eq_false hmT] at hc
        have hA : aheadTo n T (k + 1) = aheadTo n T k := aheadTo_no (by rw [hm]; exact hmT)
        have HA : Hid _ := hA
        have HM : Hid (n + k = m) := hm
        have hm2 : m ≤ n + 63 := by omega
        have hm3 : n ≤ m := by omega
        rw [hm]
        clear hA hmT hrow hm
        generalize aheadTo n T k = l at *
        generalize m % 64 = K at *
        have k0 : (0 : Int) ≤ (K : Int) := by omega
        have k1 : (K : Int) < (64 : Int) := by omega
        go_wp2_with fail
        go_quiet (first | (go_at_call 105; exact Calls.quiet_of_same (PP.out _)))
        have hown1 := own_drewNW hown nq
        have ht1 := ht.trans (touch_drewNW (fun _ => False) wr nq)
        clear hc hown ht
        generalize wr.drewN nq = w1 at *
        go_wp2
        go_roundw
        case rel => exact ⟨k + 1, by rw [← HM.out]; go_num, hk2, by rw [HA.out]; exact hown1, ht1⟩
        case measure => simp [intOf]; omega
    · obtain rfl : k = 64 := by omega
      have d1 : decide (((n + 64 : Nat) : Int) < (n : Int) + 64) = false := decide_eq_false (by omega)
      go_wp2
      go_ret
      exact ⟨_, rfl, hown, ht⟩

end Go.Proofs.YtanghehmfagmfaaGreatDoor
