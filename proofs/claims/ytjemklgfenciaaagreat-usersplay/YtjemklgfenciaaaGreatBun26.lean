/-
  Parts of this proof, one behind the other: Usr8, Usr9, Usr10, Usr11, Usr12, Usr13.
-/
import Derived.Test.YtjemklgfenciaaaGreatBun23
import Derived.Deep.RegionHeld3
import Derived.Deep.MidRow
import Derived.BigQuiet
import Derived.RegionTactic
import Derived.Test.YtjemklgfenciaaaGreatBun10

/-
  The reference's Name, User, Users; the law's Tidy.
-/
namespace Go.Proofs.YtjemklgfenciaaaGreat
open Go.RowKit
set_option linter.unusedVariables false
set_option maxRecDepth 100000
set_option linter.unusedSimpArgs false

def byteOkU (b : UInt8) : Bool := decide (33 ≤ b.toNat ∧ b.toNat ≤ 126)
theorem nameOkU_is (s : ByteArray) : nameOkU s = (decide (1 ≤ s.size ∧ s.size ≤ 20) && s.data.toList.all byteOkU) := rfl
theorem nameOkU_bad (s : ByteArray) (k : Nat) (h : k < s.size) (hb : byteOkU (s[k]'h) = false) : nameOkU s = false := by
  rw [nameOkU_is]
  have : s.data.toList.all byteOkU = false := by
    rw [List.all_eq_false]
    exact ⟨s[k]'h, by rw [Array.mem_toList_iff]; exact Array.getElem_mem _, by rw [hb]; decide⟩
  rw [this, Bool.and_false]
theorem nameOkU_good (s : ByteArray) (h : ∀ k (hk : k < s.size), byteOkU (s[k]'hk) = true) : nameOkU s = decide (1 ≤ s.size ∧ s.size ≤ 20) := by
  rw [nameOkU_is]
  have : s.data.toList.all byteOkU = true := by
    rw [List.all_eq_true]
    intro b hb
    obtain ⟨i, hi, e⟩ := List.getElem_of_mem hb
    have hi2 : i < s.size := by simpa using hi
    have := h i hi2
    rw [← e]
    exact this
  rw [this, Bool.and_true]

set_option maxHeartbeats 1000000 in
theorem refU_name (s : ByteArray) (w : World) (hs : s.size ≤ maxLen) : Calls Tryz.prog 26 #[.string s] w fun e w' => e = .returned (.bool (nameOkU s)) ∧ w = w' := by
  unfold maxLen at hs
  have HB : Hid (∀ k (h : k < s.size), byteOkU (s[k]'h) = false → nameOkU s = false) := fun k h hb => nameOkU_bad s k h hb
  have HG : Hid ((∀ k (hk : k < s.size), byteOkU (s[k]'hk) = true) → nameOkU s = decide (1 ≤ s.size ∧ s.size ≤ 20)) := nameOkU_good s
  go_enter Tryz.func26, Tryz.ntmps26
  go_wp2
  go_loopw [3] (fun i wr => ∃ k : Nat, k ≤ s.size ∧ i = .int .i64 k ∧ w = wr ∧ Hid (∀ j (hj : j < s.size), j < k → byteOkU (s[j]'hj) = true)) (fun i _ => s.size - (intOf i).toNat)
  case atStart => exact ⟨0, Nat.zero_le _, rfl, rfl, fun j _ h => absurd h (Nat.not_lt_zero _)⟩
  case round =>
    obtain ⟨k, hk, rfl, rfl, hj⟩ := hrel
    by_cases hlt : k < s.size
    · have dlt : decide ((k : Int) < (s.size : Int)) = true := decide_eq_true (by omega)
      have i0 : (0 : Int) ≤ (k : Int) := by omega
      have i1 : (k : Int) < (s.size : Int) := by omega
      obtain ⟨y, hy⟩ : ∃ y : UInt8, s[k]'hlt = y := ⟨_, rfl⟩
      have hbk := HB.out k hlt
      rw [hy] at hbk
      by_cases h1 : (y.toNat : Int) < 33
      · have d1 : decide ((y.toNat : Int) < 33) = true := decide_eq_true h1
        have HF : Hid (nameOkU s = false) := hbk (decide_eq_false (by omega))
        clear hbk
        go_wp2
        go_ret
        exact ⟨by rw [HF.out]; rfl, rfl⟩
      · have d1 : decide ((y.toNat : Int) < 33) = false := decide_eq_false h1
        by_cases h2 : 126 < (y.toNat : Int)
        · have d2 : decide (126 < (y.toNat : Int)) = true := decide_eq_true h2
          have HF : Hid (nameOkU s = false) := hbk (decide_eq_false (by omega))
          clear hbk
          go_wp2
          go_ret
          exact ⟨by rw [HF.out]; rfl, rfl⟩
        · have d2 : decide (126 < (y.toNat : Int)) = false := decide_eq_false h2
          have hnew : Hid (∀ j (hj : j < s.size), j < k + 1 → byteOkU (s[j]'hj) = true) := fun j hj2 hl => by
            by_cases e : j = k
            · subst e; rw [hy]; exact decide_eq_true (by omega)
            · exact hj.out j hj2 (by omega)
          clear hbk
          go_wp2
          go_roundw
          case rel => exact ⟨k + 1, by omega, by go_num, (by first | rfl | trivial), hnew⟩
          case measure => simp [intOf]; omega
    · obtain rfl : k = s.size := by omega
      have dlt : decide ((s.size : Int) < (s.size : Int)) = false := by simp
      have he := HG.out (fun j hj2 => hj.out j hj2 hj2)
      by_cases g1 : 1 ≤ s.size
      · have d1 : decide (1 ≤ (s.size : Int)) = true := decide_eq_true (by omega)
        have d2 : decide (1 ≤ s.size ∧ s.size ≤ 20) = decide ((s.size : Int) ≤ 20) := decide_eq_decide.2 ⟨fun h => by omega, fun h => by omega⟩
        rw [d2] at he
        have HE : Hid _ := he
        clear he d2
        go_wp2
        go_ret
        exact ⟨by rw [HE.out]; rfl, rfl⟩
      · have d1 : decide (1 ≤ (s.size : Int)) = false := decide_eq_false (by omega)
        have d2 : decide (1 ≤ s.size ∧ s.size ≤ 20) = false := decide_eq_false (by omega)
        rw [d2] at he
        have HE : Hid _ := he
        clear he d2
        go_wp2
        go_ret
        exact ⟨by rw [HE.out]; rfl, rfl⟩

set_option maxHeartbeats 1000000 in
theorem refU_user (n s : ByteArray) (w : World) (hn : n.size ≤ maxLen) (hs : s.size ≤ maxLen) : Calls Tryz.prog 8 #[.agg #[.string n, .string s]] w fun e w' => e = .returned (.bool (userOkU n s)) ∧ Below w.heap.size w w' := by
  have PN : Hid _ := fun w1 => refU_name n w1 hn
  have hd : ((s.size : Int) == 32) = decide (s.size = 32) := by
    by_cases h : s.size = 32
    · rw [decide_eq_true h, h]; rfl
    · rw [decide_eq_false h]; exact beq_eq_false_iff_ne.2 (by omega)
  have he : Hid (userOkU n s = (nameOkU n && decide (s.size = 32))) := rfl
  rw [he.out]
  clear he
  generalize nameOkU n = B at *
  generalize decide (s.size = 32) = D at *
  have r1 := RowIs.new w 32 [.string n, .string s]
  have b1 : Below w.heap.size w (w.alloc (.cells #[.string n, .string s] 32)) := (Below.refl _ _).alloc (Nat.le_refl _) _
  have c0 := r1.cellAt (j := 0) rfl
  have c1 := r1.cellAt (j := 1) rfl
  cases B with
  | true =>
    go_enter Tryz.func8, Tryz.ntmps8
    go_wp2_with fail
    with_reducible refine (PN.out _).mono ?_
    rintro e w' ⟨rfl, rfl⟩
    go_wp2
    go_ret
    exact ⟨rfl, b1⟩
  | false =>
    go_enter Tryz.func8, Tryz.ntmps8
    go_wp2_with fail
    with_reducible refine (PN.out _).mono ?_
    rintro e w' ⟨rfl, rfl⟩
    go_wp2
    go_ret
    exact ⟨rfl, b1⟩

end Go.Proofs.YtjemklgfenciaaaGreat

/-
  The reference's Users; the law's Tidy.
-/
namespace Go.Proofs.YtjemklgfenciaaaGreat
open Go.RowKit
set_option linter.unusedVariables false
set_option maxRecDepth 100000
set_option linter.unusedSimpArgs false

/-- The first k may be, and no two of them have one name. -/
structure GoodU (X : Nat → NS) (k : Nat) : Prop where
  ok : ∀ j, j < k → userOkU (X j).1 (X j).2 = true
  apart : ∀ j, j < k → ∀ m, m < j → (X m).1 ≠ (X j).1
theorem listU_mem {X : Nat → NS} {n j : Nat} (h : j < n) : X j ∈ listU X n := List.mem_map.2 ⟨j, List.mem_range.2 h, rfl⟩
theorem listU_len (X : Nat → NS) (n : Nat) : (listU X n).length = n := by unfold listU; rw [List.length_map, List.length_range]
theorem listU_names (X : Nat → NS) (n j : Nat) (h : j < n) : ((listU X n).map Prod.fst)[j]? = some (X j).1 := by
  unfold listU
  rw [List.map_map, List.getElem?_map, List.getElem?_range h]
  rfl
theorem usersOk_bad {X : Nat → NS} {n k : Nat} (h : k < n) (hb : userOkU (X k).1 (X k).2 = false) : usersOk (listU X n) = false := by
  unfold usersOk
  have : (listU X n).all (fun p => userOkU p.1 p.2) = false := by
    rw [List.all_eq_false]
    exact ⟨X k, listU_mem h, by rw [hb]; decide⟩
  rw [this, Bool.and_false, Bool.false_and]
theorem usersOk_twin {X : Nat → NS} {n k m : Nat} (h : k < n) (hm : m < k) (he : (X m).1 = (X k).1) : usersOk (listU X n) = false := by
  unfold usersOk
  have : nodupL ((listU X n).map Prod.fst) = false := by
    cases hh : nodupL ((listU X n).map Prod.fst) with
    | false => rfl
    | true =>
      have hn := (nodupL_iff _).1 hh
      have hl : ((listU X n).map Prod.fst).length = n := by rw [List.length_map, listU_len]
      have e1 := listU_names X n m (by omega)
      have e2 := listU_names X n k h
      rw [List.getElem?_eq_getElem (by omega)] at e1 e2
      have := (List.getElem_inj (h₀ := by omega) (h₁ := by omega) hn).1 ((Option.some.inj e1).trans (he.trans (Option.some.inj e2).symm))
      omega
  rw [this, Bool.and_false]
theorem usersOk_good {X : Nat → NS} {n : Nat} (h : GoodU X n) : usersOk (listU X n) = decide (n ≤ 20) := by
  have h2 : (listU X n).all (fun p => userOkU p.1 p.2) = true := by
    rw [List.all_eq_true]
    intro p hp
    obtain ⟨j, hj, rfl⟩ := List.mem_map.1 hp
    exact h.ok j (List.mem_range.1 hj)
  have h3 : nodupL ((listU X n).map Prod.fst) = true := by
    rw [nodupL_iff]
    unfold listU
    rw [List.map_map]
    unfold List.Nodup
    rw [List.pairwise_map]
    refine List.Pairwise.imp_of_mem ?_ (List.pairwise_lt_range (n := n))
    intro a b ha hb hlt e
    exact h.apart b (List.mem_range.1 hb) a hlt e
  unfold usersOk
  rw [h2, h3, listU_len, Bool.and_true, Bool.and_true]

set_option maxHeartbeats 2000000 in
theorem refU_users (w : World) (oa : Option Addr) (n c : Nat) (X : Nat → NS) (hx : PairsAt w oa n X) (hn : n ≤ 1000) (hz : ∀ i, i < n → (X i).1.size ≤ maxLen ∧ (X i).2.size ≤ maxLen) :
    Calls Tryz.prog 9 #[.slice oa n c] w fun e w' => e = .returned (.bool (usersOk (listU X n))) ∧ Below w.heap.size w w' := by
  have HX : Hid (PairsAt w oa n X) := hx
  have HZ : Hid _ := hz
  have HB : Hid (∀ k, k < n → userOkU (X k).1 (X k).2 = false → usersOk (listU X n) = false) := fun k h hb => usersOk_bad h hb
  have HW : Hid (∀ k m, k < n → m < k → (X m).1 = (X k).1 → usersOk (listU X n) = false) := fun k m h hm he => usersOk_twin h hm he
  have HG : Hid (GoodU X n → usersOk (listU X n) = decide (n ≤ 20)) := usersOk_good
  clear hx hz
  go_enter Tryz.func9, Tryz.ntmps9
  go_wp2
  go_loopw [3] (fun i wr => ∃ k : Nat, k ≤ n ∧ i = .int .i64 k ∧ Hid (GoodU X k) ∧ Below w.heap.size w wr) (fun i _ => n - (intOf i).toNat)
  case atStart => exact ⟨0, Nat.zero_le _, rfl, ⟨fun j h => absurd h (Nat.not_lt_zero _), fun j h => absurd h (Nat.not_lt_zero _)⟩, Below.refl _ _⟩
  case round =>
    obtain ⟨k, hk, rfl, hg, hb⟩ := hrel
    by_cases hlt : k < n
    · have dlt : decide ((k : Int) < (n : Int)) = true := decide_eq_true (by omega)
      have i0 : (0 : Int) ≤ (k : Int) := by omega
      have i1 : (k : Int) < (n : Int) := by omega
      obtain ⟨bb, oo, rfl, c1, c2⟩ := (HX.out.later hb) k hlt
      obtain ⟨z1, z2⟩ := HZ.out k hlt
      have PU : Hid _ := fun w1 => refU_user (X k).1 (X k).2 w1 z1 z2
      cases hu : userOkU (X k).1 (X k).2 with
      | false =>
        have HF : Hid _ := HB.out k hlt hu
        rw [hu] at PU
        clear hu z1 z2
        generalize (X k).1 = A at *
        generalize (X k).2 = B at *
        go_wp2_with fail
        with_reducible refine (PU.out _).mono ?_
        rintro e w1 ⟨rfl, b1⟩
        go_wp2
        go_ret
        exact ⟨by rw [HF.out]; rfl, hb.trans (b1.mono hb.size)⟩
      | true =>
        have hu2 : Hid (userOkU (X k).1 (X k).2 = true) := hu
        rw [hu] at PU
        obtain ⟨A, hA⟩ : ∃ A, (X k).1 = A := ⟨_, rfl⟩
        have HA : Hid ((X k).1 = A) := hA
        obtain ⟨B, hBb⟩ : ∃ B, (X k).2 = B := ⟨_, rfl⟩
        rw [hA, hBb] at PU
        rw [hA] at c1
        rw [hBb] at c2
        clear hA hBb hu z1 z2
        go_wp2_with fail
        with_reducible refine (PU.out _).mono ?_
        rintro e w1 ⟨rfl, b1⟩
        have hb1 : Below w.heap.size w w1 := hb.trans (b1.mono hb.size)
        clear hb b1 c1 c2 PU
        go_wp2_with fail
        go_loopw [4] (fun i2 wr2 => ∃ m : Nat, m ≤ k ∧ i2 = .int .i64 m ∧ Hid (∀ j, j < m → (X j).1 ≠ A) ∧ Below w.heap.size w wr2) (fun i2 _ => k - (intOf i2).toNat)
        case atStart => exact ⟨0, Nat.zero_le _, rfl, (fun j h => absurd h (Nat.not_lt_zero _)), hb1⟩
        case round =>
          clear hb1
          obtain ⟨m, hm, rfl, hj, hb2⟩ := hrel
          by_cases hlt2 : m < k
          · have dlt2 : decide ((m : Int) < (k : Int)) = true := decide_eq_true (by omega)
            have j0 : (0 : Int) ≤ (m : Int) := by omega
            have j1 : (m : Int) < (n : Int) := by omega
            obtain ⟨_, _, e1, c1, _⟩ := (HX.out.later hb2) m (by omega)
            injection e1 with e1; injection e1 with e2 e3 _; subst e2 e3
            obtain ⟨_, _, e1, c2, _⟩ := (HX.out.later hb2) k hlt
            injection e1 with e1; injection e1 with e2 e3 _; subst e2 e3
            rw [HA.out] at c2
            by_cases he : (X m).1 = A
            · have HF : Hid _ := HW.out k m hlt hlt2 (he.trans HA.out.symm)
              rw [he] at c1
              have es := str_beq_self A
              go_wp2_with fail
              go_region
              all_goals
                go_wp2
                go_ret
                exact ⟨by rw [HF.out]; rfl, hb2.drew⟩
            · have HJ : Hid (∀ j, j < m + 1 → (X j).1 ≠ A) := fun j hl => by
                by_cases e : j = m
                · subst e; exact he
                · exact hj.out j (by omega)
              have es : ((X m).1.toList == A.toList) = false := by rw [str_beq]; exact decide_eq_false he
              clear he hj
              generalize (X m).1 = C at *
              go_wp2_with fail
              go_region
              all_goals
                go_wp2
                go_roundw
                case rel => exact ⟨m + 1, by omega, by go_num, HJ, hb2.drew⟩
                case measure => simp [intOf]; omega
          · obtain rfl : m = k := by omega
            have dlt2 : decide ((m : Int) < (m : Int)) = false := by simp
            have HN : Hid (GoodU X (m + 1)) := ⟨fun j hl => by
              by_cases e : j = m
              · subst e; exact hu2.out
              · exact hg.out.ok j (by omega), fun j hl q hq => by
              by_cases e : j = m
              · subst e; rw [HA.out]; exact hj.out q hq
              · exact hg.out.apart j (by omega) q hq⟩
            go_wp2
            go_roundw
            case rel => exact ⟨m + 1, by omega, by go_num, HN, hb2⟩
            case measure => simp [intOf]; omega
    · obtain rfl : k = n := by omega
      have dlt : decide ((k : Int) < (k : Int)) = false := by simp
      have HE : Hid _ := HG.out hg.out
      have d2 : decide ((k : Int) ≤ 20) = decide (k ≤ 20) := decide_eq_decide.2 (by omega)
      go_wp2
      go_ret
      exact ⟨by rw [HE.out, ← d2]; rfl, hb⟩

end Go.Proofs.YtjemklgfenciaaaGreat

/-
  The law's Tidy: users out of raw ones.
-/
namespace Go.Proofs.YtjemklgfenciaaaGreat
open Go.RowKit
set_option linter.unusedVariables false
set_option maxRecDepth 100000
set_option linter.unusedSimpArgs false

def tidyU (X : Nat → NS) (k : Nat) : List NS := (List.range k).map fun j => ((X j).1, fillS (X j).2 32)
theorem tidyU_len (X : Nat → NS) (k : Nat) : (tidyU X k).length = k := by unfold tidyU; rw [List.length_map, List.length_range]
theorem tidyU_more (X : Nat → NS) (k : Nat) : tidyU X (k + 1) = tidyU X k ++ [((X k).1, fillS (X k).2 32)] := by unfold tidyU; rw [List.range_succ, List.map_append]; rfl
theorem tidyU_at (X : Nat → NS) (k j : Nat) (h : j < k) : (tidyU X k).getD j nsNone = ((X j).1, fillS (X j).2 32) := by
  unfold tidyU
  rw [List.getD_eq_getElem?_getD, List.getElem?_map, List.getElem?_range h]
  rfl

set_option maxHeartbeats 2000000 in
theorem law14_tidy (w0 w : World) (l : List Thing) (h : Here w0 l w) (oa : Option Addr) (n c : Nat) (X : Nat → NS) (hx : PairsAt w oa n X) (hn : n ≤ 1000) (hz : ∀ i, i < n → (X i).1.size ≤ maxLen ∧ (X i).2.size ≤ maxLen) :
    Calls Tryz.prog 5 #[.slice oa n c] w fun e w' => ∃ a d, e = .returned (.slice a n d) ∧ Here w0 (PairsTh w0.heap.size (.slice a n d) (tidyU X n) :: l) w' ∧ Below w.heap.size w w' := by
  have HX : Hid (PairsAt w oa n X) := hx
  have HZ : Hid _ := hz
  have H0 : Hid (Here w0 (PairsTh w0.heap.size (.slice none 0 0) [] :: l) w) := h.newPairs w0.heap.size
  obtain ⟨i0, hi0, hz0, hz1, hz2⟩ := info_parts infoNS
  clear hx hz h
  go_enter Tryz.func5, Tryz.ntmps5
  go_wp2
  go_loopw [3, 4] (fun v i wr => ∃ k : Nat, k ≤ n ∧ i = .int .i64 k ∧ Here w0 (PairsTh w0.heap.size v (tidyU X k) :: l) wr ∧ Below w.heap.size w wr ∧ ∀ g, v.ownBlock = some g → w.heap.size ≤ g) (fun _ i _ => n - (intOf i).toNat)
  case atStart => exact ⟨0, Nat.zero_le _, rfl, H0.out, Below.refl _ _, fun g hg => by simp [Value.ownBlock] at hg⟩
  case round =>
    clear H0
    obtain ⟨k, hkn, rfl, hh, hb, hge⟩ := hrel
    have own := hh.pairs 0 rfl
    obtain ⟨ao, cap, hv, hao⟩ := own.shape
    rw [tidyU_len] at hv
    subst hv
    by_cases hlt : k < n
    · have dlt : decide ((k : Int) < (n : Int)) = true := decide_eq_true (by omega)
      have j0 : (0 : Int) ≤ (k : Int) := by omega
      have j1 : (k : Int) < (n : Int) := by omega
      obtain ⟨bb, oo, rfl, c1, c2⟩ := (HX.out.later hb) k hlt
      obtain ⟨z1, z2⟩ := HZ.out k hlt
      have F1 : Hid _ := fun w1 => law5_fill32 (X k).2 w1 z2
      have HNB : Hid (¬ (Value.slice ao k cap).ownBlock = some bb) := fun e => by
        obtain ⟨b', o', e', q1, _⟩ := HX.out k hlt
        injection e' with e'; injection e' with e1 e2 _; subst e1 e2
        have h1 := World.block_lt_of_cell? w _ q1
        have h2 := hge bb e
        have h3 : bb < w.heap.size := h1
        omega
      have HGE : Hid (∀ g, (Value.slice ao k cap).ownBlock = some g → w.heap.size ≤ g) := hge
      have HBB : Hid (Below w.heap.size w wr) := hb
      have HMM : Hid _ := tidyU_more X k
      have HML : Hid _ := tidyU_len X k
      have own2 : ∀ o1, ((wr.alloc o1).drew).ownsRow w0.heap.size 32 2 (.slice ao k cap) k (cellsP (tidyU X k)) := fun o1 => by
        have h1 : OwnP ((wr.alloc o1).drew) w0.heap.size (.slice ao k cap) (tidyU X k) := ((hh.alloc o1).drew).pairs 0 rfl
        unfold OwnP at h1
        rwa [tidyU_len] at h1
      have HH : Hid (∀ o1, Here w0 (PairsTh w0.heap.size (.slice ao k cap) (tidyU X k) :: l) ((wr.alloc o1).drew)) := fun o1 => (hh.alloc o1).drew
      have hsz0 := hh.sz
      have hbz := hb.size
      have c1d : wr.drew.cell? ⟨bb, oo + k * 2, none⟩ = some (.string (X k).1) := by rw [World.cell?_drew]; exact c1
      have c2d : wr.drew.cell? ⟨bb, oo + k * 2 + 1, none⟩ = some (.string (X k).2) := by rw [World.cell?_drew]; exact c2
      have c1e : ∀ o1, (wr.alloc o1).drew.cell? ⟨bb, oo + k * 2, none⟩ = some (.string (X k).1) := fun o1 => by rw [World.cell?_drew]; exact cell_alloc9 c1 o1
      have c2e : ∀ o1, (wr.alloc o1).drew.cell? ⟨bb, oo + k * 2 + 1, none⟩ = some (.string (X k).2) := fun o1 => by rw [World.cell?_drew]; exact cell_alloc9 c2 o1
      clear own hh z1 z2
      generalize fillS (X k).2 32 = FSL at *
      generalize (X k).1 = A at *
      generalize (X k).2 = B at *
      generalize tidyU X k = LL at *
      go_wp2_with fail
      go_region_held3 (fun w' => w'.cell? ⟨bb, oo + k * 2, none⟩ = some (.string A) ∧ w'.cell? ⟨bb, oo + k * 2 + 1, none⟩ = some (.string B)) (first | exact ⟨c1f, c2f⟩ | exact ⟨c1e _, c2e _⟩ | exact ⟨c1d, c2d⟩ | exact ⟨c1, c2⟩) (first | (go_at_call 23; with_reducible refine (F1.out _).mono ?_; rintro e w' ⟨rfl, rfl⟩) | (refine step_append_two _ rfl (.tmp 11) (.tmp 24) 22 rfl w0.heap.size 32 i0 (.agg #[.string ⟨#[]⟩, .string ⟨#[]⟩]) 2 32 Tryz.underlying22 hi0 hz0 hz1 hz2 rfl (by decide) (.slice ao k cap) k (cellsP LL) rfl (own2 _) ⟨wr.heap.size, 0, none⟩ 1 1 [.string A, .string FSL] rfl rfl (by have := cells_new wr 32 [.string A, .string FSL]; simpa using this) (by intro u hu; simp at hu; rcases hu with rfl | rfl <;> rfl) (by unfold maxLen; omega) (by omega) (by simp; omega) ?_; intro v' w3 ho3 hg3 hat3; have c1f := touch_cell (touch_grown hg3) (c1e _) HNB.out; have c2f := touch_cell (touch_grown hg3) (c2e _) HNB.out))
      all_goals
        have hz9 : (wr.alloc (.cells #[.string A, .string FSL] 32)).drew.heap.size = wr.heap.size + 1 := by simp
        have h9 := (HH.out (.cells #[.string A, .string FSL] 32)).growP 0 rfl (OwnP.more (x := (A, FSL)) HML.out ho3) hg3 hat3
        have hb9 : Below w.heap.size w w3 := (Touch.grown (S := fun k => w.heap.size ≤ k) (⟨HBB.out.os, HBB.out.tape, HBB.out.output, HBB.out.size, fun q hq _ => HBB.out.block q hq⟩ |> fun t => (Touch.alloc t _).drew) hg3 (fun q hq => Or.inl (HGE.out q hq))).below (fun q hq => hq) (Nat.le_refl _)
        have hge9 : ∀ g, v'.ownBlock = some g → w.heap.size ≤ g := fun g hg => by
          rcases hat3 with e | ⟨e, _⟩
          · exact HGE.out g (e ▸ hg)
          · rw [e, hz9] at hg
            have := Option.some.inj hg
            omega
        clear ho3 hg3 hat3
        go_wp2
        go_roundw
        case rel => exact ⟨k + 1, by omega, by go_num, by rw [HMM.out]; exact h9, hb9, hge9⟩
        case measure => simp [intOf]; omega
    · obtain rfl : k = n := by omega
      have dlt : decide ((k : Int) < (k : Int)) = false := by simp
      go_wp2
      go_ret
      exact ⟨ao, cap, rfl, hh, hb⟩

end Go.Proofs.YtjemklgfenciaaaGreat

/-
  The reference's book of users in memory: At.
-/
namespace Go.Proofs.YtjemklgfenciaaaGreat
open Go.RowKit
set_option linter.unusedVariables false
set_option maxRecDepth 100000
set_option linter.unusedSimpArgs false

def pairsB (B : List Usr) : List NS := B.map fun u => (u.name, u.secret)
theorem pairsB_len (B : List Usr) : (pairsB B).length = B.length := List.length_map ..
theorem pairsB_name (B : List Usr) (j : Nat) (h : j < B.length) : (namesU B)[j]? = some ((pairsB B).getD j nsNone).1 := by
  unfold namesU pairsB
  rw [List.getElem?_map, List.getD_eq_getElem?_getD, List.getElem?_map, List.getElem?_eq_getElem h]
  rfl
theorem idxL_first : ∀ (l : List ByteArray) (n : ByteArray) (k : Nat), l[k]? = some n → (∀ j, j < k → l[j]? ≠ some n) → hasL l n = true ∧ idxL l n = k
  | [], n, k, h, _ => by simp at h
  | x :: r, n, 0, h, _ => by
    have e : x = n := by simpa using h
    unfold hasL idxL
    rw [if_pos e, if_pos e]
    exact ⟨rfl, rfl⟩
  | x :: r, n, k + 1, h, hj => by
    have e : ¬ x = n := fun e => hj 0 (by omega) (by simp [e])
    obtain ⟨h1, h2⟩ := idxL_first r n k (by simpa using h) (fun j hl => by have := hj (j + 1) (by omega); simpa using this)
    unfold hasL idxL
    rw [if_neg e, if_neg e, h2]
    exact ⟨h1, rfl⟩
theorem hasL_none (l : List ByteArray) (n : ByteArray) (h : ∀ j, j < l.length → l[j]? ≠ some n) : hasL l n = false := by
  cases hh : hasL l n with
  | false => rfl
  | true => exact absurd (idxL_at l n hh) (h _ (List.getElem?_eq_some_iff.1 (idxL_at l n hh)).1)
/-- What At tells. -/
def atV (B : List Usr) (n : ByteArray) : Int := if hasU B n then (idxU B n : Int) else -1
def failRow (B : List Usr) : List Value := B.map fun u => .int .i64 (u.fails : Int)
def tillRow (B : List Usr) : List Value := B.map fun u => .int .i64 u.till
def lockRow (B : List Usr) : List Value := B.map fun u => .bool u.locked
/-- The reference's book, in memory. -/
structure RefBk (w : World) (r : Nat) (vL : Value) (gF gU gK : Nat) (B : List Usr) : Prop where
  row : RowIs w r 55 [vL, .slice (some ⟨gF, 0, none⟩) B.length B.length, .slice (some ⟨gU, 0, none⟩) B.length B.length, .slice (some ⟨gK, 0, none⟩) B.length B.length]
  users : OwnP w 0 vL (pairsB B)
  fails : RowIs w gF 3 (failRow B)
  till : RowIs w gU 3 (tillRow B)
  locks : RowIs w gK 4 (lockRow B)
  apart : r ≠ gF ∧ r ≠ gU ∧ r ≠ gK ∧ gF ≠ gU ∧ gF ≠ gK ∧ gU ≠ gK
  off : ∀ k, vL.ownBlock = some k → k ≠ r ∧ k ≠ gF ∧ k ≠ gU ∧ k ≠ gK
theorem RefBk.shape {w : World} {r gF gU gK : Nat} {vL : Value} {B : List Usr} (h : RefBk w r vL gF gU gK B) : ∃ ao cap, vL = .slice ao B.length cap ∧ PairsAt w ao B.length (fun i => (pairsB B).getD i nsNone) := by
  obtain ⟨ao, cap, hv, _⟩ := h.users.shape
  rw [pairsB_len] at hv
  subst hv
  exact ⟨ao, cap, rfl, (OwnP.pairs h.users).2⟩
theorem RefBk.keep {S : Nat → Prop} {w w' : World} {r gF gU gK : Nat} {vL : Value} {B : List Usr} (h : RefBk w r vL gF gU gK B) (ht : Touch S w w') (hn : ∀ k, (k = r ∨ vL.ownBlock = some k ∨ k = gF ∨ k = gU ∨ k = gK) → ¬ S k) : RefBk w' r vL gF gU gK B := by
  have hr : ∀ {g : Nat} {t : TypeId} {l : List Value}, RowIs w g t l → ¬ S g → RowIs w' g t l := fun h hS => by
    show w'.heap[_]? = _
    rw [ht.block _ h.lt hS]
    exact h
  exact ⟨hr h.row (hn _ (Or.inl rfl)), own_touch2 h.users ht (fun k hk => hn k (Or.inr (Or.inl hk))), hr h.fails (hn _ (Or.inr (Or.inr (Or.inl rfl)))), hr h.till (hn _ (Or.inr (Or.inr (Or.inr (Or.inl rfl))))), hr h.locks (hn _ (Or.inr (Or.inr (Or.inr (Or.inr rfl))))), h.apart, h.off⟩

set_option maxHeartbeats 1000000 in
theorem refU_at (w : World) (r gF gU gK : Nat) (vL : Value) (B : List Usr) (n : ByteArray) (h : RefBk w r vL gF gU gK B) (hl : B.length ≤ 1000) :
    Calls Tryz.prog 14 #[.pointer (some ⟨r, 0, none⟩), .string n] w fun e w' => e = .returned (.int .i64 (atV B n)) ∧ w = w' := by
  obtain ⟨ao, cap, rfl, hp⟩ := h.shape
  have c0 := h.row.cellAt (j := 0) rfl
  have HP : Hid _ := hp
  have HY : Hid (∀ k : Nat, (namesU B)[k]? = some n → (∀ j, j < k → (namesU B)[j]? ≠ some n) → atV B n = (k : Int)) := fun k h1 h2 => by
    obtain ⟨e1, e2⟩ := idxL_first (namesU B) n k h1 h2
    unfold atV hasU idxU
    rw [e1, e2]
    rfl
  have HN : Hid ((∀ j, j < B.length → (namesU B)[j]? ≠ some n) → atV B n = -1) := fun h1 => by
    have := hasL_none (namesU B) n (fun j hj => h1 j (by simpa [namesU] using hj))
    unfold atV hasU
    rw [this]
    rfl
  have HA : Hid (∀ j, j < B.length → (namesU B)[j]? = some ((pairsB B).getD j nsNone).1) := fun j hj => pairsB_name B j hj
  clear h hp
  generalize B.length = N at *
  go_enter Tryz.func14, Tryz.ntmps14
  go_wp2
  go_loopw [5] (fun i wr => ∃ k : Nat, k ≤ N ∧ i = .int .i64 k ∧ w = wr ∧ Hid (∀ j, j < k → (namesU B)[j]? ≠ some n)) (fun i _ => N - (intOf i).toNat)
  case atStart => exact ⟨0, Nat.zero_le _, rfl, rfl, fun j h => absurd h (Nat.not_lt_zero _)⟩
  case round =>
    obtain ⟨k, hk, rfl, rfl, hj⟩ := hrel
    by_cases hlt : k < N
    · have dlt : decide ((k : Int) < (N : Int)) = true := decide_eq_true (by omega)
      have i0 : (0 : Int) ≤ (k : Int) := by omega
      have i1 : (k : Int) < (N : Int) := by omega
      obtain ⟨bb, oo, rfl, c1, c2⟩ := HP.out k hlt
      have ha := HA.out k hlt
      generalize ((pairsB B).getD k nsNone).1 = A at *
      by_cases he : A = n
      · have HF : Hid _ := HY.out k (by rw [ha, he]) hj.out
        have es : (A.toList == n.toList) = true := by rw [he]; exact str_beq_self n
        clear he ha
        go_wp2
        go_ret
        exact ⟨by rw [HF.out]; rfl, rfl⟩
      · have HJ : Hid (∀ j, j < k + 1 → (namesU B)[j]? ≠ some n) := fun j hl2 => by
          by_cases e : j = k
          · subst e; rw [ha]; exact fun e2 => he (Option.some.inj e2)
          · exact hj.out j (by omega)
        have es : (A.toList == n.toList) = false := by rw [str_beq]; exact decide_eq_false he
        clear he ha hj
        go_wp2
        go_roundw
        case rel => exact ⟨k + 1, by omega, by go_num, (by first | rfl | trivial), HJ⟩
        case measure => simp [intOf]; omega
    · obtain rfl : k = N := by omega
      have dlt : decide ((k : Int) < (k : Int)) = false := by simp
      have HF : Hid _ := HN.out hj.out
      go_wp2
      go_ret
      exact ⟨by rw [HF.out]; rfl, rfl⟩

end Go.Proofs.YtjemklgfenciaaaGreat

/-
  The reference's book of users: Good, IsLocked, Fail.
-/
namespace Go.Proofs.YtjemklgfenciaaaGreat
open Go.RowKit
set_option linter.unusedVariables false
set_option maxRecDepth 100000
set_option linter.unusedSimpArgs false

theorem atV_yes {B : List Usr} {n : ByteArray} (h : hasU B n = true) : atV B n = (idxU B n : Int) := by unfold atV; rw [h]; rfl
theorem atV_no {B : List Usr} {n : ByteArray} (h : hasU B n = false) : atV B n = -1 := by unfold atV; rw [h]; rfl
theorem failRow_at {B : List Usr} {n : ByteArray} (h : hasU B n = true) : (failRow B)[idxU B n]? = some (.int .i64 ((atU B n).fails : Int)) := by unfold failRow; rw [List.getElem?_map, atU_get h]; rfl
theorem tillRow_at {B : List Usr} {n : ByteArray} (h : hasU B n = true) : (tillRow B)[idxU B n]? = some (.int .i64 (atU B n).till) := by unfold tillRow; rw [List.getElem?_map, atU_get h]; rfl
theorem lockRow_at {B : List Usr} {n : ByteArray} (h : hasU B n = true) : (lockRow B)[idxU B n]? = some (.bool (atU B n).locked) := by unfold lockRow; rw [List.getElem?_map, atU_get h]; rfl
theorem failRow_put (B : List Usr) (n : ByteArray) (u : Usr) : failRow (putU B n u) = (failRow B).set (idxU B n) (.int .i64 (u.fails : Int)) := by unfold failRow putU; rw [List.map_set]
theorem tillRow_put (B : List Usr) (n : ByteArray) (u : Usr) : tillRow (putU B n u) = (tillRow B).set (idxU B n) (.int .i64 u.till) := by unfold tillRow putU; rw [List.map_set]
theorem lockRow_put (B : List Usr) (n : ByteArray) (u : Usr) : lockRow (putU B n u) = (lockRow B).set (idxU B n) (.bool u.locked) := by unfold lockRow putU; rw [List.map_set]
theorem set_same14 {l : List Value} {k : Nat} {v : Value} (h : l[k]? = some v) : l.set k v = l := by
  refine List.ext_getElem? (fun i => ?_)
  by_cases e : k = i
  · subst e; rw [List.getElem?_set_self (List.getElem?_eq_some_iff.1 h).1, h]
  · rw [List.getElem?_set_ne e]
theorem pairsB_put {B : List Usr} {n : ByteArray} {u : Usr} (h : hasU B n = true) (h1 : u.name = n) (h2 : u.secret = (atU B n).secret) : pairsB (putU B n u) = pairsB B := by
  unfold pairsB putU
  rw [List.map_set, h1, h2]
  refine List.ext_getElem? (fun i => ?_)
  by_cases e : idxU B n = i
  · subst e
    rw [List.getElem?_set_self (by rw [List.length_map]; exact idxU_lt h), List.getElem?_map, atU_get h, Option.map_some, atU_name h]
  · rw [List.getElem?_set_ne e]
theorem putU_len (B : List Usr) (n : ByteArray) (u : Usr) : (putU B n u).length = B.length := by unfold putU; exact List.length_set
/-- One user is turned, its three cells with it. -/
theorem RefBk.put {w w' : World} {r gF gU gK : Nat} {vL : Value} {B : List Usr} {n : ByteArray} {u : Usr} (h : RefBk w r vL gF gU gK B) (hh : hasU B n = true) (h1 : u.name = n) (h2 : u.secret = (atU B n).secret)
    (ht : Touch (fun k => k = gF ∨ k = gU ∨ k = gK) w w') (rF : RowIs w' gF 3 (failRow (putU B n u))) (rU : RowIs w' gU 3 (tillRow (putU B n u))) (rK : RowIs w' gK 4 (lockRow (putU B n u))) : RefBk w' r vL gF gU gK (putU B n u) := by
  obtain ⟨a1, a2, a3, a4, a5, a6⟩ := h.apart
  refine ⟨?_, ?_, rF, rU, rK, h.apart, h.off⟩
  · rw [putU_len]
    show w'.heap[r]? = _
    rw [ht.block r h.row.lt (fun hk => by rcases hk with hk | hk | hk; exact a1 hk; exact a2 hk; exact a3 hk)]
    exact h.row
  · rw [pairsB_put hh h1 h2]
    refine own_touch2 h.users ht (fun k hk hS => ?_)
    obtain ⟨_, o2, o3, o4⟩ := h.off k hk
    rcases hS with hS | hS | hS
    · exact o2 hS
    · exact o3 hS
    · exact o4 hS

set_option maxHeartbeats 1000000 in
theorem refU_good (w : World) (r gF gU gK : Nat) (vL : Value) (B : List Usr) (n : ByteArray) (h : RefBk w r vL gF gU gK B) (hl : B.length ≤ 1000) :
    Calls Tryz.prog 18 #[.pointer (some ⟨r, 0, none⟩), .string n] w fun e w' => e = .returned (.tuple #[]) ∧ RefBk w' r vL gF gU gK (goodB B n) ∧ Touch (fun k => k = gF ∨ k = gU ∨ k = gK) w w' := by
  have PA := refU_at w r gF gU gK vL B n h hl
  cases hh : hasU B n with
  | false =>
    rw [atV_no hh] at PA
    have HE : Hid (goodB B n = B) := by unfold goodB; rw [hh]; rfl
    have H : Hid (RefBk w r vL gF gU gK B) := h
    clear h hh
    go_enter Tryz.func18, Tryz.ntmps18
    go_wp2_with fail
    with_reducible refine PA.mono ?_
    rintro e w' ⟨rfl, rfl⟩
    go_wp2
    go_end0
    exact ⟨rfl, by rw [HE.out]; exact H.out, Touch.refl _ _⟩
  | true =>
    rw [atV_yes hh] at PA
    have HE : Hid (goodB B n = putU B n (goodU (atU B n))) := by unfold goodB; rw [hh]; rfl
    have hlt := idxU_lt hh
    have c1 := h.row.cellAt (j := 1) rfl
    have cF := h.fails.cellAt (failRow_at hh)
    have zF := h.fails.frozen (idxU B n)
    have rF : RowIs (w.setCell ⟨gF, idxU B n, none⟩ (.int .i64 0)) gF 3 (failRow (putU B n (goodU (atU B n)))) := by rw [failRow_put]; exact h.fails.set _ _
    have T1 : Touch (fun k => k = gF ∨ k = gU ∨ k = gK) w (w.setCell ⟨gF, idxU B n, none⟩ (.int .i64 0)) := (Touch.refl _ w).set (p := ⟨gF, idxU B n, none⟩) (Or.inl (Or.inl rfl)) _
    obtain ⟨a1, a2, a3, a4, a5, a6⟩ := h.apart
    have rU : RowIs (w.setCell ⟨gF, idxU B n, none⟩ (.int .i64 0)) gU 3 (tillRow (putU B n (goodU (atU B n)))) := by
      rw [tillRow_put, show (goodU (atU B n)).till = (atU B n).till from rfl, set_same14 (tillRow_at hh)]
      exact h.till.setOther (a := ⟨gF, idxU B n, none⟩) (Ne.symm a4) _
    have rK : RowIs (w.setCell ⟨gF, idxU B n, none⟩ (.int .i64 0)) gK 4 (lockRow (putU B n (goodU (atU B n)))) := by
      rw [lockRow_put, show (goodU (atU B n)).locked = (atU B n).locked from rfl, set_same14 (lockRow_at hh)]
      exact h.locks.setOther (a := ⟨gF, idxU B n, none⟩) (Ne.symm a5) _
    have HF : Hid (RefBk (w.setCell ⟨gF, idxU B n, none⟩ (.int .i64 0)) r vL gF gU gK (putU B n (goodU (atU B n)))) := h.put hh (atU_name hh) rfl T1 rF rU rK
    have HT : Hid _ := T1
    clear rF rU rK T1 h hh a1 a2 a3 a4 a5 a6
    generalize idxU B n = K at *
    generalize (atU B n).fails = f at *
    generalize B.length = N at *
    have k0 : (0 : Int) ≤ (K : Int) := by omega
    have k1 : (K : Int) < (N : Int) := by omega
    have d1 : decide ((0 : Int) ≤ (K : Int)) = true := decide_eq_true k0
    go_enter Tryz.func18, Tryz.ntmps18
    go_wp2_with fail
    with_reducible refine PA.mono ?_
    rintro e w' ⟨rfl, rfl⟩
    go_wp2
    go_end0
    exact ⟨rfl, by rw [HE.out]; exact HF.out, HT.out⟩

set_option maxHeartbeats 1000000 in
theorem refU_locked (w : World) (r gF gU gK : Nat) (vL : Value) (B : List Usr) (n : ByteArray) (now : Int) (h : RefBk w r vL gF gU gK B) (hl : B.length ≤ 1000) :
    Calls Tryz.prog 20 #[.pointer (some ⟨r, 0, none⟩), .string n, .int .i64 now] w fun e w' => e = .returned (.bool (lockedT B n now)) ∧ w = w' := by
  have PA := refU_at w r gF gU gK vL B n h hl
  cases hh : hasU B n with
  | false =>
    rw [atV_no hh] at PA
    have HE : Hid (lockedT B n now = false) := by unfold lockedT; rw [hh]; rfl
    rw [HE.out]
    clear h hh HE
    go_enter Tryz.func20, Tryz.ntmps20
    go_wp2_with fail
    with_reducible refine PA.mono ?_
    rintro e w' ⟨rfl, rfl⟩
    go_wp2
    go_ret
    exact ⟨rfl, rfl⟩
  | true =>
    rw [atV_yes hh] at PA
    have HE : Hid (lockedT B n now = ((atU B n).locked && decide (now ≤ (atU B n).till))) := by unfold lockedT; rw [hh]; rfl
    rw [HE.out]
    have hlt := idxU_lt hh
    have c2 := h.row.cellAt (j := 2) rfl
    have c3 := h.row.cellAt (j := 3) rfl
    have cU := h.till.cellAt (tillRow_at hh)
    have cK := h.locks.cellAt (lockRow_at hh)
    clear h hh HE
    generalize idxU B n = K at *
    generalize (atU B n).till = t at *
    generalize (atU B n).locked = lk at *
    generalize B.length = N at *
    have k0 : (0 : Int) ≤ (K : Int) := by omega
    have k1 : (K : Int) < (N : Int) := by omega
    have d1 : decide ((0 : Int) ≤ (K : Int)) = true := decide_eq_true k0
    cases lk with
    | true =>
      go_enter Tryz.func20, Tryz.ntmps20
      go_wp2_with fail
      with_reducible refine PA.mono ?_
      rintro e w' ⟨rfl, rfl⟩
      go_wp2
      go_ret
      exact ⟨rfl, rfl⟩
    | false =>
      go_enter Tryz.func20, Tryz.ntmps20
      go_wp2_with fail
      with_reducible refine PA.mono ?_
      rintro e w' ⟨rfl, rfl⟩
      go_wp2
      go_ret
      exact ⟨rfl, rfl⟩

end Go.Proofs.YtjemklgfenciaaaGreat

/-
  The reference's book of users: Fail.
-/
namespace Go.Proofs.YtjemklgfenciaaaGreat
open Go.RowKit
set_option linter.unusedVariables false
set_option maxRecDepth 100000
set_option linter.unusedSimpArgs false

set_option maxHeartbeats 2000000 in
theorem refU_fail (w : World) (r gF gU gK : Nat) (vL : Value) (B : List Usr) (n : ByteArray) (now : Int) (h : RefBk w r vL gF gU gK B) (hok : UsersOk B) (hw : I64U now) :
    Calls Tryz.prog 16 #[.pointer (some ⟨r, 0, none⟩), .string n, .int .i64 now] w fun e w' => e = .returned (.bool (failT B n)) ∧ RefBk w' r vL gF gU gK (failB B n now) ∧ Touch (fun k => k = gF ∨ k = gU ∨ k = gK) w w' := by
  have PA := refU_at w r gF gU gK vL B n h (by have := hok.len; omega)
  obtain ⟨w0, w1⟩ := hw
  cases hh : hasU B n with
  | false =>
    rw [atV_no hh] at PA
    have HE : Hid (failB B n now = B) := by unfold failB; rw [hh]; rfl
    have HE2 : Hid (failT B n = false) := by unfold failT; rw [hh]; rfl
    rw [HE2.out]
    have H : Hid (RefBk w r vL gF gU gK B) := h
    clear h hh hok
    go_enter Tryz.func16, Tryz.ntmps16
    go_wp2_with fail
    with_reducible refine PA.mono ?_
    rintro e w' ⟨rfl, rfl⟩
    go_wp2
    go_ret
    exact ⟨rfl, by rw [HE.out]; exact H.out, Touch.refl _ _⟩
  | true =>
    rw [atV_yes hh] at PA
    have HE : Hid (failB B n now = putU B n (failU (atU B n) now)) := by unfold failB; rw [hh]; rfl
    have HE2 : Hid (failT B n = lastU (atU B n)) := by unfold failT; rw [hh]; rfl
    rw [HE2.out]
    have hlt := idxU_lt hh
    have hf3 := (hok.each _ (List.mem_of_getElem? (atU_get hh))).2
    have c1 := h.row.cellAt (j := 1) rfl
    have cF := h.fails.cellAt (failRow_at hh)
    have zF := h.fails.frozen (idxU B n)
    obtain ⟨a1, a2, a3, a4, a5, a6⟩ := h.apart
    have hnm := atU_name hh
    by_cases h3 : (atU B n).fails + 1 < 3
    · obtain ⟨e1, e2⟩ := failU_less (u := atU B n) (now := now) h3
      rw [e2]
      have rF : RowIs (w.setCell ⟨gF, idxU B n, none⟩ (.int .i64 (((atU B n).fails + 1 : Nat) : Int))) gF 3 (failRow (putU B n (failU (atU B n) now))) := by rw [failRow_put, e1]; exact h.fails.set _ _
      have T1 : Touch (fun k => k = gF ∨ k = gU ∨ k = gK) w (w.setCell ⟨gF, idxU B n, none⟩ (.int .i64 (((atU B n).fails + 1 : Nat) : Int))) := (Touch.refl _ w).set (p := ⟨gF, idxU B n, none⟩) (Or.inl (Or.inl rfl)) _
      have rU : RowIs (w.setCell ⟨gF, idxU B n, none⟩ (.int .i64 (((atU B n).fails + 1 : Nat) : Int))) gU 3 (tillRow (putU B n (failU (atU B n) now))) := by
        rw [tillRow_put, e1, set_same14 (tillRow_at hh)]
        exact h.till.setOther (a := ⟨gF, idxU B n, none⟩) (Ne.symm a4) _
      have rK : RowIs (w.setCell ⟨gF, idxU B n, none⟩ (.int .i64 (((atU B n).fails + 1 : Nat) : Int))) gK 4 (lockRow (putU B n (failU (atU B n) now))) := by
        rw [lockRow_put, e1, set_same14 (lockRow_at hh)]
        exact h.locks.setOther (a := ⟨gF, idxU B n, none⟩) (Ne.symm a5) _
      have HF : Hid (RefBk (w.setCell ⟨gF, idxU B n, none⟩ (.int .i64 (((atU B n).fails + 1 : Nat) : Int))) r vL gF gU gK (putU B n (failU (atU B n) now))) := h.put hh ((failU_name _ _).1.trans hnm) (failU_name _ _).2 T1 rF rU rK
      have HT : Hid _ := T1
      have c1' : (w.setCell ⟨gF, idxU B n, none⟩ (.int .i64 (((atU B n).fails + 1 : Nat) : Int))).cell? ⟨r, 1, none⟩ = some (.slice (some ⟨gF, 0, none⟩) B.length B.length) := (h.row.setOther (a := ⟨gF, idxU B n, none⟩) a1 _).cellAt (j := 1) rfl
      have cF' : (w.setCell ⟨gF, idxU B n, none⟩ (.int .i64 (((atU B n).fails + 1 : Nat) : Int))).cell? ⟨gF, idxU B n, none⟩ = some (.int .i64 (((atU B n).fails + 1 : Nat) : Int)) := (h.fails.set (idxU B n) _).cellAt (List.getElem?_set_self (List.getElem?_eq_some_iff.1 (failRow_at hh)).1)
      clear rF rU rK T1 h hh a1 a2 a3 a4 a5 a6 hok e1 e2 hnm
      generalize idxU B n = K at *
      generalize (atU B n).fails = f at *
      generalize B.length = N at *
      have k0 : (0 : Int) ≤ (K : Int) := by omega
      have k1 : (K : Int) < (N : Int) := by omega
      have d1 : decide ((K : Int) < 0) = false := decide_eq_false (by omega)
      have d2 : decide ((((f + 1 : Nat)) : Int) < 3) = true := decide_eq_true (by omega)
      have ef : (f : Int) + 1 = ((f + 1 : Nat) : Int) := by omega
      rw [← ef] at HF HT c1' cF' d2
      clear ef
      have f0 : (0 : Int) ≤ (f : Int) := by omega
      have f1 : (f : Int) ≤ 2 := by omega
      go_enter Tryz.func16, Tryz.ntmps16
      go_wp2_with fail
      with_reducible refine PA.mono ?_
      rintro e w' ⟨rfl, rfl⟩
      go_wp2
      go_ret
      exact ⟨rfl, by rw [HE.out]; exact HF.out, HT.out⟩
    · obtain ⟨e1, e2⟩ := failU_last (u := atU B n) (now := now) h3
      rw [e2]
      obtain ⟨N, hN⟩ : ∃ N, B.length = N := ⟨_, rfl⟩
      have rr0 := h.row
      rw [hN] at rr0 hlt
      clear c1
      have c1 := rr0.cellAt (j := 1) rfl
      have c2 := rr0.cellAt (j := 2) rfl
      have c3 := rr0.cellAt (j := 3) rfl
      have cU := h.till.cellAt (tillRow_at hh)
      have cK := h.locks.cellAt (lockRow_at hh)
      have H : Hid (RefBk w r vL gF gU gK B) := h
      have HH : Hid (hasU B n = true) := hh
      -- the worlds behind each store
      obtain ⟨x, hx⟩ : ∃ x, IntKind.i64.wrap (now + 20) = x := ⟨_, rfl⟩
      have HFin : Hid (∀ (wz : World) (t : Int), t = min (now + 20) 9223372036854775807 → Touch (fun k => k = gF ∨ k = gU ∨ k = gK) w wz → RowIs wz gF 3 ((failRow B).set (idxU B n) (.int .i64 0)) → RowIs wz gU 3 ((tillRow B).set (idxU B n) (.int .i64 t)) → RowIs wz gK 4 ((lockRow B).set (idxU B n) (.bool true)) → RefBk wz r vL gF gU gK (putU B n (failU (atU B n) now))) := fun wz t ht T1 rF rU rK => by
        refine h.put hh ((failU_name _ _).1.trans hnm) (failU_name _ _).2 T1 ?_ ?_ ?_
        · rw [failRow_put, e1]; exact rF
        · rw [tillRow_put, e1, ← ht]; exact rU
        · rw [lockRow_put, e1]; exact rK
      have rF0 := h.fails
      have rU0 := h.till
      have rK0 := h.locks
      clear hok hnm e1 e2
      generalize idxU B n = K at *
      generalize (atU B n).fails = f at *
      generalize (atU B n).till = t0 at *
      generalize (atU B n).locked = l0 at *
      have k0 : (0 : Int) ≤ (K : Int) := by omega
      have k1 : (K : Int) < (N : Int) := by omega
      have d1 : decide ((K : Int) < 0) = false := decide_eq_false (by omega)
      have d2 : decide ((f : Int) + 1 < 3) = false := decide_eq_false (by omega)
      have f0 : (0 : Int) ≤ (f : Int) := by omega
      have f1 : (f : Int) ≤ 2 := by omega
      have hkF := (List.getElem?_eq_some_iff.1 (failRow_at hh)).1
      -- behind f + 1
      have s1 : Touch (fun k => k = gF ∨ k = gU ∨ k = gK) w (w.setCell ⟨gF, K, none⟩ (.int .i64 ((f : Int) + 1))) := (Touch.refl _ w).set (p := ⟨gF, K, none⟩) (Or.inl (Or.inl rfl)) _
      have rr1 := rr0.setOther (a := ⟨gF, K, none⟩) a1 (.int .i64 ((f : Int) + 1))
      have rF1 := rF0.set K (.int .i64 ((f : Int) + 1))
      have rU1 := rU0.setOther (a := ⟨gF, K, none⟩) (Ne.symm a4) (.int .i64 ((f : Int) + 1))
      have rK1 := rK0.setOther (a := ⟨gF, K, none⟩) (Ne.symm a5) (.int .i64 ((f : Int) + 1))
      have q1 := rr1.cellAt (j := 1) rfl
      have q2 := rr1.cellAt (j := 2) rfl
      have q3 := rr1.cellAt (j := 3) rfl
      have qF : (w.setCell ⟨gF, K, none⟩ (.int .i64 ((f : Int) + 1))).cell? ⟨gF, K, none⟩ = some (.int .i64 ((f : Int) + 1)) := rF1.cellAt (List.getElem?_set_self (by have := (List.getElem?_eq_some_iff.1 (rF0.cell K ▸ cF)).1; exact this))
      have qzF := rF1.frozen K
      have hsF : ((failRow B).set K (.int .i64 ((f : Int) + 1)))[K]? = some (.int .i64 ((f : Int) + 1)) := List.getElem?_set_self (by unfold failRow; rw [List.length_map, hN]; exact hlt)
      have hsK : (lockRow B)[K]? = some (.bool l0) := by rw [← rK0.cell]; exact cK
      have hsU : (tillRow B)[K]? = some (.int .i64 t0) := by rw [← rU0.cell]; exact cU
      have hkU : K < (tillRow B).length := by unfold tillRow; rw [List.length_map, hN]; exact hlt
      clear h hh q2 q3 hN
      by_cases hm : 9223372036854775787 < now
      · have dm : decide (9223372036854775787 < now) = true := decide_eq_true hm
        go_enter Tryz.func16, Tryz.ntmps16
        go_wp2_with fail
        with_reducible refine PA.mono ?_
        rintro e w' ⟨rfl, rfl⟩
        clear PA
        go_wp2_with fail
        clear c1 c2 c3 cF zF cU cK q1 qF qzF
        generalize w.setCell ⟨gF, K, none⟩ (.int .i64 ((f : Int) + 1)) = wa at *
        have xF : wa.cell? ⟨gF, K, none⟩ = some (.int .i64 ((f : Int) + 1)) := rF1.cellAt hsF
        have yF := rF1.frozen K
        have rr2 := rr1.setOther (a := ⟨gF, K, none⟩) a1 (.int .i64 0)
        have rF2 := rF1.set K (.int .i64 0)
        have rU2 := rU1.setOther (a := ⟨gF, K, none⟩) (Ne.symm a4) (.int .i64 0)
        have rK2 := rK1.setOther (a := ⟨gF, K, none⟩) (Ne.symm a5) (.int .i64 0)
        have xK : (wa.setCell ⟨gF, K, none⟩ (.int .i64 0)).cell? ⟨gK, K, none⟩ = some (.bool l0) := rK2.cellAt hsK
        have yK := rK2.frozen K
        have rr3 := rr2.setOther (a := ⟨gK, K, none⟩) a3 (.bool true)
        have rF3 := rF2.setOther (a := ⟨gK, K, none⟩) a5 (.bool true)
        have rU3 := rU2.setOther (a := ⟨gK, K, none⟩) a6 (.bool true)
        have rK3 := rK2.set K (.bool true)
        have xU : ((wa.setCell ⟨gF, K, none⟩ (.int .i64 0)).setCell ⟨gK, K, none⟩ (.bool true)).cell? ⟨gU, K, none⟩ = some (.int .i64 t0) := rU3.cellAt hsU
        have yU := rU3.frozen K
        have rr4 := rr3.setOther (a := ⟨gU, K, none⟩) a2 (.int .i64 x)
        have rF4 := rF3.setOther (a := ⟨gU, K, none⟩) a4 (.int .i64 x)
        have rU4 := rU3.set K (.int .i64 x)
        have rK4 := rK3.setOther (a := ⟨gU, K, none⟩) (Ne.symm a6) (.int .i64 x)
        have g1 := rr1.cellAt (j := 1) rfl
        have g2 := rr1.cellAt (j := 2) rfl
        have g3 := rr1.cellAt (j := 3) rfl
        have m1 := rr2.cellAt (j := 1) rfl
        have m2 := rr2.cellAt (j := 2) rfl
        have m3 := rr2.cellAt (j := 3) rfl
        have n1 := rr3.cellAt (j := 1) rfl
        have n2 := rr3.cellAt (j := 2) rfl
        have n3 := rr3.cellAt (j := 3) rfl
        have p1 := rr4.cellAt (j := 1) rfl
        have p2 := rr4.cellAt (j := 2) rfl
        have p3 := rr4.cellAt (j := 3) rfl
        have s4 : Hid (Touch (fun k => k = gF ∨ k = gU ∨ k = gK) w (((wa.setCell ⟨gF, K, none⟩ (.int .i64 0)).setCell ⟨gK, K, none⟩ (.bool true)).setCell ⟨gU, K, none⟩ (.int .i64 x)).drew) := (((s1.set (p := ⟨gF, K, none⟩) (Or.inl (Or.inl rfl)) _).set (p := ⟨gK, K, none⟩) (Or.inl (Or.inr (Or.inr rfl))) _).set (p := ⟨gU, K, none⟩) (Or.inl (Or.inr (Or.inl rfl))) _).drew
        have R4 : Hid (RowIs (((wa.setCell ⟨gF, K, none⟩ (.int .i64 0)).setCell ⟨gK, K, none⟩ (.bool true)).setCell ⟨gU, K, none⟩ (.int .i64 x)).drew gF 3 _) := rF4.drew
        have R5 : Hid (RowIs (((wa.setCell ⟨gF, K, none⟩ (.int .i64 0)).setCell ⟨gK, K, none⟩ (.bool true)).setCell ⟨gU, K, none⟩ (.int .i64 x)).drew gU 3 _) := rU4.drew
        have R6 : Hid (RowIs (((wa.setCell ⟨gF, K, none⟩ (.int .i64 0)).setCell ⟨gK, K, none⟩ (.bool true)).setCell ⟨gU, K, none⟩ (.int .i64 x)).drew gK 4 _) := rK4.drew
        have R7 : Hid (RowIs (((wa.setCell ⟨gF, K, none⟩ (.int .i64 0)).setCell ⟨gK, K, none⟩ (.bool true)).setCell ⟨gU, K, none⟩ (.int .i64 x)).drew r 55 _) := rr4.drew
        clear rr0 rF0 rU0 rK0 rr1 rF1 rU1 rK1 rr2 rF2 rU2 rK2 rr3 rF3 rU3 rK3 rr4 rF4 rU4 rK4 s1
        go_region_held3 (fun w' => w'.cell? ⟨r, 1, none⟩ = some (.slice (some ⟨gF, 0, none⟩) N N) ∧ w'.cell? ⟨r, 2, none⟩ = some (.slice (some ⟨gU, 0, none⟩) N N) ∧ w'.cell? ⟨r, 3, none⟩ = some (.slice (some ⟨gK, 0, none⟩) N N)) (first | exact ⟨p1, p2, p3⟩ | exact ⟨n1, n2, n3⟩ | exact ⟨m1, m2, m3⟩ | exact ⟨g1, g2, g3⟩) (fail)
        all_goals
          clear g1 g2 g3 m1 m2 m3 n1 n2 n3 p1 p2 p3 xF yF xK yK xU yU
          generalize (((wa.setCell ⟨gF, K, none⟩ (.int .i64 0)).setCell ⟨gK, K, none⟩ (.bool true)).setCell ⟨gU, K, none⟩ (.int .i64 x)).drew = wd at *
          have q2 := R7.out.cellAt (j := 2) rfl
          have xU : wd.cell? ⟨gU, K, none⟩ = some (.int .i64 x) := R5.out.cellAt (List.getElem?_set_self hkU)
          have yU := R5.out.frozen K
          have rU5 : Hid (RowIs (wd.setCell ⟨gU, K, none⟩ (.int .i64 9223372036854775807)) gU 3 ((tillRow B).set K (.int .i64 9223372036854775807))) := by
            have := R5.out.set K (.int .i64 9223372036854775807)
            rwa [List.set_set] at this
          have rF5 : Hid (RowIs (wd.setCell ⟨gU, K, none⟩ (.int .i64 9223372036854775807)) gF 3 _) := R4.out.setOther (a := ⟨gU, K, none⟩) a4 _
          have rK5 : Hid (RowIs (wd.setCell ⟨gU, K, none⟩ (.int .i64 9223372036854775807)) gK 4 _) := R6.out.setOther (a := ⟨gU, K, none⟩) (Ne.symm a6) _
          have s5 : Hid (Touch (fun k => k = gF ∨ k = gU ∨ k = gK) w (wd.setCell ⟨gU, K, none⟩ (.int .i64 9223372036854775807))) := s4.out.set (p := ⟨gU, K, none⟩) (Or.inl (Or.inr (Or.inl rfl))) _
          go_wp2
          go_ret
          exact ⟨rfl, by rw [HE.out]; exact HFin.out _ 9223372036854775807 (by omega) s5.out (by have := rF5.out; rwa [List.set_set] at this) rU5.out rK5.out, s5.out⟩
      · have dm : decide (9223372036854775787 < now) = false := decide_eq_false hm
        have hxx : x = now + 20 := by rw [← hx, IntKind.wrap_i64]; omega
        subst hxx
        go_enter Tryz.func16, Tryz.ntmps16
        go_wp2_with fail
        with_reducible refine PA.mono ?_
        rintro e w' ⟨rfl, rfl⟩
        clear PA
        go_wp2_with fail
        clear c1 c2 c3 cF zF cU cK q1 qF qzF
        generalize w.setCell ⟨gF, K, none⟩ (.int .i64 ((f : Int) + 1)) = wa at *
        have xF : wa.cell? ⟨gF, K, none⟩ = some (.int .i64 ((f : Int) + 1)) := rF1.cellAt hsF
        have yF := rF1.frozen K
        have rr2 := rr1.setOther (a := ⟨gF, K, none⟩) a1 (.int .i64 0)
        have rF2 := rF1.set K (.int .i64 0)
        have rU2 := rU1.setOther (a := ⟨gF, K, none⟩) (Ne.symm a4) (.int .i64 0)
        have rK2 := rK1.setOther (a := ⟨gF, K, none⟩) (Ne.symm a5) (.int .i64 0)
        have xK : (wa.setCell ⟨gF, K, none⟩ (.int .i64 0)).cell? ⟨gK, K, none⟩ = some (.bool l0) := rK2.cellAt hsK
        have yK := rK2.frozen K
        have rr3 := rr2.setOther (a := ⟨gK, K, none⟩) a3 (.bool true)
        have rF3 := rF2.setOther (a := ⟨gK, K, none⟩) a5 (.bool true)
        have rU3 := rU2.setOther (a := ⟨gK, K, none⟩) a6 (.bool true)
        have rK3 := rK2.set K (.bool true)
        have xU : ((wa.setCell ⟨gF, K, none⟩ (.int .i64 0)).setCell ⟨gK, K, none⟩ (.bool true)).cell? ⟨gU, K, none⟩ = some (.int .i64 t0) := rU3.cellAt hsU
        have yU := rU3.frozen K
        have rr4 := rr3.setOther (a := ⟨gU, K, none⟩) a2 (.int .i64 (now + 20))
        have rF4 := rF3.setOther (a := ⟨gU, K, none⟩) a4 (.int .i64 (now + 20))
        have rU4 := rU3.set K (.int .i64 (now + 20))
        have rK4 := rK3.setOther (a := ⟨gU, K, none⟩) (Ne.symm a6) (.int .i64 (now + 20))
        have g1 := rr1.cellAt (j := 1) rfl
        have g2 := rr1.cellAt (j := 2) rfl
        have g3 := rr1.cellAt (j := 3) rfl
        have m1 := rr2.cellAt (j := 1) rfl
        have m2 := rr2.cellAt (j := 2) rfl
        have m3 := rr2.cellAt (j := 3) rfl
        have n1 := rr3.cellAt (j := 1) rfl
        have n2 := rr3.cellAt (j := 2) rfl
        have n3 := rr3.cellAt (j := 3) rfl
        have p1 := rr4.cellAt (j := 1) rfl
        have p2 := rr4.cellAt (j := 2) rfl
        have p3 := rr4.cellAt (j := 3) rfl
        have s4 : Hid (Touch (fun k => k = gF ∨ k = gU ∨ k = gK) w (((wa.setCell ⟨gF, K, none⟩ (.int .i64 0)).setCell ⟨gK, K, none⟩ (.bool true)).setCell ⟨gU, K, none⟩ (.int .i64 (now + 20))).drew) := (((s1.set (p := ⟨gF, K, none⟩) (Or.inl (Or.inl rfl)) _).set (p := ⟨gK, K, none⟩) (Or.inl (Or.inr (Or.inr rfl))) _).set (p := ⟨gU, K, none⟩) (Or.inl (Or.inr (Or.inl rfl))) _).drew
        have R4 : Hid (RowIs (((wa.setCell ⟨gF, K, none⟩ (.int .i64 0)).setCell ⟨gK, K, none⟩ (.bool true)).setCell ⟨gU, K, none⟩ (.int .i64 (now + 20))).drew gF 3 _) := rF4.drew
        have R5 : Hid (RowIs (((wa.setCell ⟨gF, K, none⟩ (.int .i64 0)).setCell ⟨gK, K, none⟩ (.bool true)).setCell ⟨gU, K, none⟩ (.int .i64 (now + 20))).drew gU 3 _) := rU4.drew
        have R6 : Hid (RowIs (((wa.setCell ⟨gF, K, none⟩ (.int .i64 0)).setCell ⟨gK, K, none⟩ (.bool true)).setCell ⟨gU, K, none⟩ (.int .i64 (now + 20))).drew gK 4 _) := rK4.drew
        have R7 : Hid (RowIs (((wa.setCell ⟨gF, K, none⟩ (.int .i64 0)).setCell ⟨gK, K, none⟩ (.bool true)).setCell ⟨gU, K, none⟩ (.int .i64 (now + 20))).drew r 55 _) := rr4.drew
        clear rr0 rF0 rU0 rK0 rr1 rF1 rU1 rK1 rr2 rF2 rU2 rK2 rr3 rF3 rU3 rK3 rr4 rF4 rU4 rK4 s1
        go_region_held3 (fun w' => w'.cell? ⟨r, 1, none⟩ = some (.slice (some ⟨gF, 0, none⟩) N N) ∧ w'.cell? ⟨r, 2, none⟩ = some (.slice (some ⟨gU, 0, none⟩) N N) ∧ w'.cell? ⟨r, 3, none⟩ = some (.slice (some ⟨gK, 0, none⟩) N N)) (first | exact ⟨p1, p2, p3⟩ | exact ⟨n1, n2, n3⟩ | exact ⟨m1, m2, m3⟩ | exact ⟨g1, g2, g3⟩) (fail)
        all_goals
          clear g1 g2 g3 m1 m2 m3 n1 n2 n3 p1 p2 p3 xF yF xK yK xU yU
          generalize (((wa.setCell ⟨gF, K, none⟩ (.int .i64 0)).setCell ⟨gK, K, none⟩ (.bool true)).setCell ⟨gU, K, none⟩ (.int .i64 (now + 20))).drew = wd at *
          go_wp2
          go_ret
          exact ⟨rfl, by rw [HE.out]; exact HFin.out _ (now + 20) (by omega) s4.out (by have := R4.out; rwa [List.set_set] at this) R5.out R6.out, s4.out⟩

end Go.Proofs.YtjemklgfenciaaaGreat
