/-
  The book's lists of whole numbers: stillInts and markedInts look at them.
-/
import Derived.Test.YtmpmhepaonifpaaBokI3
import Derived.Deep.RegionHeld3
namespace Go.Proofs.Ytmpmhepaonifpaa
open Go.RowKit
set_option linter.unusedVariables false
set_option maxRecDepth 100000
set_option linter.unusedSimpArgs false

theorem OwnI.seen {w : World} {base : Nat} {v : Value} {l : List Int} (h : OwnI w base v l) : Seen w v (cellsI l) := own_seen h

set_option maxRecDepth 100000 in
set_option maxHeartbeats 1000000 in
theorem book_stillInts (p : Nat) (F : List Value) (vo wo : Value) (vs ws : List Value) (ls : List (List Int)) (w : World) (hF : ∃ q, RowIs w p q F) (h2 : F[2]? = some vo) (h3 : F[3]? = some wo) (hvo : Seen w vo vs) (hwo : Seen w wo ws) (hv : vs.length = ls.length) (hw : ws.length = ls.length)
    (hsv : ∀ (i : Nat) (v : Value) (l : List Int), vs[i]? = some v → ls[i]? = some l → Seen w v (cellsI l)) (hsw : ∀ (i : Nat) (v : Value) (l : List Int), ws[i]? = some v → ls[i]? = some l → Seen w v (cellsI l)) (hN : vs.length ≤ 1000) (hl : ∀ (i : Nat) (l : List Int), ls[i]? = some l → l.length ≤ 1000000000) :
    Calls Try.prog 22 #[.pointer (some ⟨p, 0, none⟩)] w fun e w' => e = .returned (.bool true) ∧ Below w.heap.size w w' := by
  obtain ⟨q, hrow⟩ := hF
  have hc2 : w.cell? ⟨p, 2, none⟩ = some vo := hrow.cellAt h2
  have hc3 : w.cell? ⟨p, 3, none⟩ = some wo := hrow.cellAt h3
  clear hrow h2 h3
  by_cases h0 : vs.length = 0
  · obtain ⟨ao, cap, rfl⟩ := hvo.form
    rw [h0] at hc2
    clear hvo hwo hv hw hsv hsw hN hl h0 hc3
    go_enter Try.func22, Try.ntmps22
    go_wp2_with fail
    go_loopw [3] (fun i wr => i = .int .i64 0 ∧ wr = w) (fun i _ => 0)
    case atStart => exact ⟨rfl, rfl⟩
    case round =>
      obtain ⟨rfl, rfl⟩ := hrel
      go_wp2
      go_ret
      exact ⟨rfl, Below.refl _ _⟩
  · obtain ⟨go, co, rfl, hco⟩ := seen_cell hvo (by omega)
    obtain ⟨gw, cw, rfl, hcw⟩ := seen_cell hwo (by omega)
    have HCO : Hid _ := hco
    have HCW : Hid _ := hcw
    have HSV : Hid _ := hsv
    have HSW : Hid _ := hsw
    have HL : Hid _ := hl
    clear hco hcw hsv hsw hl hvo hwo
    obtain ⟨N, hNN⟩ : ∃ N, ls.length = N := ⟨_, rfl⟩
    have HNN : Hid (ls.length = N) := hNN
    have HV : Hid (vs.length = N) := by show vs.length = N; omega
    have HW : Hid (ws.length = N) := by show ws.length = N; omega
    rw [HV.out] at hc2 hN h0
    rw [HW.out] at hc3
    clear hNN hv hw
    go_enter Try.func22, Try.ntmps22
    go_wp2_with fail
    go_loopw [3] (fun i wr => ∃ k : Nat, k ≤ N ∧ i = .int .i64 k ∧ Below w.heap.size w wr) (fun i _ => N - (intOf i).toNat)
    case atStart => exact ⟨0, Nat.zero_le _, rfl, Below.refl _ _⟩
    case round =>
      obtain ⟨k, hk, rfl, b⟩ := hrel
      have y2 := cell_belowB b hc2
      have y3 := cell_belowB b hc3
      by_cases hlt : k < N
      · obtain ⟨v, hv⟩ : ∃ v, vs[k]? = some v := ⟨vs[k]'(by rw [HV.out]; exact hlt), List.getElem?_eq_getElem (by rw [HV.out]; exact hlt)⟩
        obtain ⟨u, hu⟩ : ∃ u, ws[k]? = some u := ⟨ws[k]'(by rw [HW.out]; exact hlt), List.getElem?_eq_getElem (by rw [HW.out]; exact hlt)⟩
        obtain ⟨l, hll⟩ : ∃ l, ls[k]? = some l := ⟨ls[k]'(by rw [HNN.out]; exact hlt), List.getElem?_eq_getElem (by rw [HNN.out]; exact hlt)⟩
        have s1 := (HSV.out k v l hv hll).below b
        have s2 := (HSW.out k u l hu hll).below b
        have y4 := cell_belowB b (HCO.out k v hv)
        have y5 := cell_belowB b (HCW.out k u hu)
        have hll' := HL.out k l hll
        have d1 : decide ((k : Int) < (N : Int)) = true := by simp; omega
        have d2 : (k : Int) < (N : Int) := by omega
        have HS1 : Hid _ := s1
        have HS2 : Hid _ := s2
        have PS : Hid (∀ w2, Below wr.heap.size wr w2 → Calls Try.prog 14 #[v, u] w2 fun e w' => e = .returned (.bool true) ∧ Below w2.heap.size w2 w') := fun w2 h => book_sameInts l v u w2 (s1.below h) (s2.below h) (by omega)
        clear s1 s2 HS1 HS2 hll' hv hu hll
        go_wp2_with fail
        have bw : Below wr.heap.size wr wr.drew := (Below.refl _ _).drew
        replace b := b.drew
        go_region_held3 (fun w' => w'.cell? ⟨p, 2, none⟩ = some (.slice (some ⟨go, 0, none⟩) N co) ∧ w'.cell? ⟨p, 3, none⟩ = some (.slice (some ⟨gw, 0, none⟩) N cw) ∧ w'.cell? ⟨go, k, none⟩ = some v ∧ w'.cell? ⟨gw, k, none⟩ = some u) (exact ⟨cell_belowB bw y2, cell_belowB bw y3, cell_belowB bw y4, cell_belowB bw y5⟩) (first | (go_at_call 14; (with_reducible refine (PS.out _ bw).mono ?_); rintro e w5 ⟨rfl, b5⟩; replace bw := bel_chain8 bw b5; replace b := bel_chain8 b b5; clear b5))
        all_goals
          go_wp2
          go_roundw
          case rel => exact ⟨k + 1, by omega, by go_num, b⟩
          case measure => simp [intOf]; omega
      · obtain rfl : k = N := by omega
        have d1 : decide ((k : Int) < (k : Int)) = false := by simp
        go_wp2
        go_ret
        exact ⟨rfl, b⟩

set_option maxRecDepth 100000 in
set_option maxHeartbeats 1000000 in
theorem book_markedInts (vo : Value) (vs : List Value) (ns : List Nat) (w : World) (hvo : Seen w vo vs) (hv : vs.length = ns.length) (hs : ∀ (i : Nat) (v : Value) (n : Nat), vs[i]? = some v → ns[i]? = some n → Seen w v (cellsI (marksI i 0 n))) (hN : vs.length ≤ 1000) (hl : ∀ (i n : Nat), ns[i]? = some n → n ≤ 1000000000) :
    Calls Try.prog 43 #[vo] w fun e w' => e = .returned (.bool true) ∧ Below w.heap.size w w' := by
  by_cases h0 : vs.length = 0
  · obtain ⟨ao, cap, rfl⟩ := hvo.form
    rw [h0]
    clear hvo hv hs hN hl h0
    go_enter Try.func43, Try.ntmps43
    go_wp2_with fail
    go_loopw [3] (fun i wr => i = .int .i64 0 ∧ wr = w) (fun i _ => 0)
    case atStart => exact ⟨rfl, rfl⟩
    case round =>
      obtain ⟨rfl, rfl⟩ := hrel
      go_wp2
      go_ret
      exact ⟨rfl, Below.refl _ _⟩
  · obtain ⟨go, co, rfl, hco⟩ := seen_cell hvo (by omega)
    have HCO : Hid _ := hco
    have HS : Hid _ := hs
    have HL : Hid _ := hl
    clear hco hs hl hvo
    obtain ⟨N, hNN⟩ : ∃ N, ns.length = N := ⟨_, rfl⟩
    have HNN : Hid (ns.length = N) := hNN
    have HV : Hid (vs.length = N) := by show vs.length = N; omega
    rw [HV.out] at hN h0 ⊢
    clear hNN hv
    go_enter Try.func43, Try.ntmps43
    go_wp2_with fail
    go_loopw [3] (fun i wr => ∃ k : Nat, k ≤ N ∧ i = .int .i64 k ∧ Below w.heap.size w wr) (fun i _ => N - (intOf i).toNat)
    case atStart => exact ⟨0, Nat.zero_le _, rfl, Below.refl _ _⟩
    case round =>
      obtain ⟨k, hk, rfl, b⟩ := hrel
      by_cases hlt : k < N
      · obtain ⟨v, hv⟩ : ∃ v, vs[k]? = some v := ⟨vs[k]'(by rw [HV.out]; exact hlt), List.getElem?_eq_getElem (by rw [HV.out]; exact hlt)⟩
        obtain ⟨n, hn⟩ : ∃ n, ns[k]? = some n := ⟨ns[k]'(by rw [HNN.out]; exact hlt), List.getElem?_eq_getElem (by rw [HNN.out]; exact hlt)⟩
        have s1 := (HS.out k v n hv hn).below b
        have y4 := cell_belowB b (HCO.out k v hv)
        have hnn := HL.out k n hn
        have hml := marksI_len k 0 n
        obtain ⟨ao, cap, rfl⟩ := s1.form
        rw [cellsI_len, hml] at s1 y4
        have d1 : decide ((k : Int) < (N : Int)) = true := by simp; omega
        have d2 : (k : Int) < (N : Int) := by omega
        have PM : Hid (∀ w, Calls Try.prog 59 #[.int .i64 k, .int .i64 0, .int .i64 n] w fun e w' => (∃ v, OwnI w' w.heap.size v (marksI k 0 n) ∧ e = .returned v) ∧ Below w.heap.size w w') := fun w => book_markInts k 0 n w (by omega) (by omega) hnn
        have PS : Hid (∀ u w2, Below wr.heap.size wr w2 → Seen w2 u (cellsI (marksI k 0 n)) → Calls Try.prog 14 #[.slice ao n cap, u] w2 fun e w' => e = .returned (.bool true) ∧ Below w2.heap.size w2 w') := fun u w2 h hu => book_sameInts (marksI k 0 n) _ u w2 (s1.below h) hu (by omega)
        clear s1 hnn hv hn hml
        go_wp2_with fail
        have bw : Below wr.heap.size wr wr.drew := (Below.refl _ _).drew
        replace b := b.drew
        go_region_held3 (fun w' => w'.cell? ⟨go, k, none⟩ = some (.slice ao n cap)) (exact cell_belowB bw y4) (first | (go_at_call 59; (with_reducible refine (PM.out _).mono ?_); rintro e w5 ⟨⟨um, hum, rfl⟩, b5⟩; replace bw := bel_chain8 bw b5; replace b := bel_chain8 b b5; clear b5) | (go_at_call 14; (with_reducible refine (PS.out _ _ bw hum.seen).mono ?_); rintro e w6 ⟨rfl, b5⟩; replace bw := bel_chain8 bw b5; replace b := bel_chain8 b b5; clear b5))
        all_goals
          go_wp2
          go_roundw
          case rel => exact ⟨k + 1, by omega, by go_num, b⟩
          case measure => simp [intOf]; omega
      · obtain rfl : k = N := by omega
        have d1 : decide ((k : Int) < (k : Int)) = false := by simp
        go_wp2
        go_ret
        exact ⟨rfl, b⟩

end Go.Proofs.Ytmpmhepaonifpaa
