/-
  Package command's isReply and PutReply.
-/
import Derived.Test.YtogfobmbmimpgaaCom5
import Derived.Test.YtogfobmbmimpgaaOpn0
import Derived.Test.YtogfobmbmimpgaaBld1
namespace Go.Proofs.Ytogfobmbmimpgaa
open Go.RowKit
set_option linter.unusedVariables false
set_option maxRecDepth 100000
set_option linter.unusedSimpArgs false

def keysOf (n : Nat) (L : Nat → List UInt8) : List ByteArray := (List.range n).map fun i => str (L i)
theorem keysOf_len (n : Nat) (L : Nat → List UInt8) : (keysOf n L).length = n := by simp [keysOf]
theorem keysOf_at (n : Nat) (L : Nat → List UInt8) (i : Nat) (h : i < n) : (keysOf n L).getD i ⟨#[]⟩ = str (L i) := by simp [keysOf, h]
theorem keysOf_mem (n : Nat) (L : Nat → List UInt8) (k : ByteArray) (h : k ∈ keysOf n L) : ∃ i, i < n ∧ k = str (L i) := by
  obtain ⟨i, hi, rfl⟩ := List.mem_map.1 h
  exact ⟨i, by simpa using hi, rfl⟩
theorem keysOf_take (n : Nat) (L : Nat → List UInt8) (i : Nat) (h : i < n) : (keysOf n L).take (i + 1) = (keysOf n L).take i ++ [str (L i)] := by
  rw [List.take_add_one, List.getElem?_eq_getElem (by rw [keysOf_len]; exact h)]
  simp [keysOf]
/-- Of the first k keys none is too long. -/
def shortTo (L : Nat → List UInt8) (k : Nat) : Prop := ∀ i, i < k → (L i).length ≤ 60
theorem rep_ok_iff (e : Int) (s : ByteArray) (nu ve : Int) (n : Nat) (L : Nat → List UInt8) :
    (⟨e, s, nu, ve, keysOf n L⟩ : Rep).Ok ↔ ((0 ≤ e ∧ e ≤ 15) ∧ s.size ≤ 500 ∧ n ≤ 40) ∧ shortTo L n ∧ NumsOk nu ve := by
  constructor
  · rintro ⟨⟨h1, h2, h3, h4, h5⟩, h6⟩
    simp only [keysOf_len] at h5
    refine ⟨⟨h1, h4, h5⟩, fun i hi => ?_, h2, h3⟩
    have := h6 (str (L i)) (List.mem_map.2 ⟨i, by simpa using hi, rfl⟩)
    rwa [str_size] at this
  · rintro ⟨⟨h1, h4, h5⟩, h6, h2, h3⟩
    refine ⟨⟨h1, h2, h3, h4, by simpa [keysOf_len] using h5⟩, fun k hk => ?_⟩
    obtain ⟨i, hi, rfl⟩ := keysOf_mem n L k hk
    rw [str_size]
    exact h6 i hi

set_option maxHeartbeats 1000000 in
theorem command_isReply (e : Int) (s : ByteArray) (nu ve : Int) (oa : Option Addr) (n cap : Nat) (L : Nat → List UInt8) (w : World) (hs : s.size ≤ maxLen) (hn : n ≤ maxLen) (hL : ∀ i, i < n → (L i).length ≤ maxLen) (hk : StrsAt w oa n L) :
    Calls Try.prog 35 #[.agg #[.int .i64 e, .string s, .int .i64 nu, .int .i64 ve, .slice oa n cap]] w fun r w' => r = .returned (.bool (Rep.ok ⟨e, s, nu, ve, keysOf n L⟩)) ∧ Below w.heap.size w w' := by
  have hbel : ∀ o, Below w.heap.size w (w.alloc o) := fun o => (Below.refl _ _).alloc (Nat.le_refl _) _
  have hif := rep_ok_iff e s nu ve n L
  unfold maxLen at hs hn hL
  by_cases h0 : (0 ≤ e ∧ e ≤ 15) ∧ s.size ≤ 500 ∧ n ≤ 40
  · have q1 : decide (e < 0) = false := decide_eq_false (by omega)
    have q2 : decide (15 < e) = false := decide_eq_false (by omega)
    have q3 : decide (500 < (s.size : Int)) = false := decide_eq_false (by omega)
    have q4 : decide (40 < (n : Int)) = false := decide_eq_false (by omega)
    have hn40 : n ≤ 40 := h0.2.2
    have PN0 := fun w => command_areNumbers nu ve w
    obtain ⟨X, hX⟩ : ∃ X, decide (NumsOk nu ve) = X := ⟨_, rfl⟩
    have HX : Hid (X = true ↔ NumsOk nu ve) := by rw [← hX]; exact decide_eq_true_iff
    rw [hX] at PN0
    have PN : Hid _ := PN0
    clear PN0 hX
    have hrow : RowIs (w.alloc (.cells #[.int .i64 e, .string s, .int .i64 nu, .int .i64 ve, .slice oa n cap] 40)) w.heap.size 40 [.int .i64 e, .string s, .int .i64 nu, .int .i64 ve, .slice oa n cap] := RowIs.new w _ _
    have HI : Hid (Rep.Ok ⟨e, s, nu, ve, keysOf n L⟩ ↔ shortTo L n ∧ NumsOk nu ve) := by rw [hif]; exact ⟨fun h => h.2, fun h => ⟨h0, h⟩⟩
    have HK : Hid (∀ o, StrsAt (w.alloc o) oa n L) := fun o => hk.later (hbel o)
    clear hif hk h0 hs
    go_enter Try.func35, Try.ntmps35
    go_wp2_with fail
    have HK0 : Hid (StrsAt (w.alloc (.cells #[.int .i64 e, .string s, .int .i64 nu, .int .i64 ve, .slice oa n cap] 40)) oa n L) := HK.out _
    generalize hw : w.alloc (.cells #[.int .i64 e, .string s, .int .i64 nu, .int .i64 ve, .slice oa n cap] 40) = w1 at *
    have hb1 : Below w.heap.size w w1 := hw ▸ hbel _
    have c2 : w1.cell? ⟨w.heap.size, 2, none⟩ = some (.int .i64 nu) := hrow.cellAt rfl
    have c3 : w1.cell? ⟨w.heap.size, 3, none⟩ = some (.int .i64 ve) := hrow.cellAt rfl
    have HK1 : Hid (StrsAt w1 oa n L) := HK0
    clear hw hbel HK HK0 hrow
    go_loopw [28] (fun i wr => ∃ k : Nat, k ≤ n ∧ i = .int .i64 k ∧ wr = w1 ∧ shortTo L k) (fun i _ => n - (intOf i).toNat)
    case atStart => exact ⟨0, by omega, rfl, rfl, fun i hi => absurd hi (by omega)⟩
    case round =>
      obtain ⟨k, hk, rfl, rfl, hsh⟩ := hrel
      by_cases hlt : k < n
      · obtain ⟨bb, oo, rfl, hc⟩ := HK1.out k hlt
        have dlt : decide ((k : Int) < (n : Int)) = true := by simp; omega
        have d0 : (0 : Int) ≤ (k : Int) := by omega
        have d1 : (k : Int) < (n : Int) := by omega
        have hz : (str (L k)).size = (L k).length := str_size _
        by_cases hl : 60 < (L k).length
        · have hno : Rep.ok ⟨e, s, nu, ve, keysOf n L⟩ = false := decide_eq_false (by rw [HI.out]; exact fun h => absurd (h.1 k hlt) (by omega))
          have HN : Hid (false = Rep.ok ⟨e, s, nu, ve, keysOf n L⟩) := hno.symm
          have d2 : decide (60 < ((str (L k)).size : Int)) = true := decide_eq_true (by omega)
          have d3 : 60 < (str (L k)).size := by omega
          clear hno hz HI
          generalize str (L k) = K at *
          go_wp2
          go_ret
          exact ⟨ret_bool HN.out, hb1⟩
        · have d2 : decide (60 < ((str (L k)).size : Int)) = false := decide_eq_false (by omega)
          have d3 : ¬ 60 < (str (L k)).size := by omega
          have hsh' : Hid (shortTo L (k + 1)) := fun i hi => by
            by_cases h : i = k
            · subst h; omega
            · exact hsh i (by omega)
          clear hz hsh
          generalize str (L k) = K at *
          go_wp2
          go_roundw
          case rel => exact ⟨k + 1, by omega, by go_num, trivial, hsh'.out⟩
          case measure => simp [intOf]; omega
      · obtain rfl : k = n := by omega
        have dlt : decide ((k : Int) < (k : Int)) = false := by simp
        have HN : Hid (X = Rep.ok ⟨e, s, nu, ve, keysOf k L⟩) := by
          unfold Rep.ok
          show X = _
          rw [Bool.eq_iff_iff, HX.out, decide_eq_true_iff, HI.out]
          exact ⟨fun h => ⟨hsh, h⟩, fun h => h.2⟩
        clear HI hsh HX
        go_wp2_with fail
        with_reducible refine (PN.out _).mono ?_
        rintro r w2 ⟨rfl, rfl⟩
        go_wp2
        go_ret
        exact ⟨ret_bool HN.out, hb1⟩
  · have hno : Rep.ok ⟨e, s, nu, ve, keysOf n L⟩ = false := decide_eq_false (by rw [hif]; exact fun h => h0 h.1)
    rw [hno]
    have hcase : decide (e < 0) = true ∨ decide (e < 0) = false ∧ decide (15 < e) = true ∨ (decide (e < 0) = false ∧ decide (15 < e) = false) ∧ decide (500 < (s.size : Int)) = true ∨ (decide (e < 0) = false ∧ decide (15 < e) = false) ∧ decide (500 < (s.size : Int)) = false ∧ decide (40 < (n : Int)) = true := by
      by_cases h1 : e < 0
      · exact Or.inl (decide_eq_true h1)
      · by_cases h2 : 15 < e
        · exact Or.inr (Or.inl ⟨decide_eq_false h1, decide_eq_true h2⟩)
        · by_cases h3 : 500 < s.size
          · exact Or.inr (Or.inr (Or.inl ⟨⟨decide_eq_false h1, decide_eq_false h2⟩, decide_eq_true (by omega)⟩))
          · exact Or.inr (Or.inr (Or.inr ⟨⟨decide_eq_false h1, decide_eq_false h2⟩, decide_eq_false (by omega), decide_eq_true (by omega)⟩))
    clear hif hk h0 hno hL
    go_enter Try.func35, Try.ntmps35
    rcases hcase with c1 | ⟨c1, c2⟩ | ⟨⟨c1, c2⟩, c3⟩ | ⟨⟨c1, c2⟩, c3, c4⟩
    all_goals
      go_wp2
      go_ret
      exact ⟨rfl, hbel _⟩

end Go.Proofs.Ytogfobmbmimpgaa
