/-
  Laws of chapter 14 over what package users tells: UsersMany.
-/
import Derived.Test.YtjemklgfenciaaaUsr6
import Derived.Deep.RegionHeld3
import Derived.Deep.MidRow
namespace Go.Proofs.Ytjemklgfenciaaa
open Go.RowKit
set_option linter.unusedVariables false
set_option maxRecDepth 100000
set_option linter.unusedSimpArgs false

theorem getD_memU (l : List NS) (j : Nat) (h : j < l.length) : l.getD j nsNone ∈ l := by
  rw [List.getD_eq_getElem?_getD, List.getElem?_eq_getElem h]
  exact List.getElem_mem _
set_option maxRecDepth 100000 in
set_option maxHeartbeats 4000000 in
theorem usersMany_of (K : UsersKeeps) (n : Int) (twice : Bool) (w : World) (hn : -9223372036854775808 ≤ n ∧ n ≤ 9223372036854775807) :
    Calls Try.prog 4 #[.int .i64 n, .bool twice] w fun e w' => e = .returned (.bool true) ∧ Below w.heap.size w w' := by
  have PA : Hid _ := alive14_of K
  by_cases c0 : n < 0
  · have d0 : decide (n < 0) = true := decide_eq_true c0
    go_enter Try.func4, Try.ntmps4
    go_wp2_with fail
    with_reducible refine (PA.out _).mono ?_
    rintro e w1 ⟨rfl, b⟩
    go_wp2
    go_ret
    exact ⟨rfl, b⟩
  have d0 : decide (n < 0) = false := decide_eq_false c0
  by_cases c1 : 30 < n
  · have d1 : decide (30 < n) = true := decide_eq_true c1
    go_enter Try.func4, Try.ntmps4
    go_wp2_with fail
    with_reducible refine (PA.out _).mono ?_
    rintro e w1 ⟨rfl, b⟩
    go_wp2
    go_ret
    exact ⟨rfl, b⟩
  have d1 : decide (30 < n) = false := decide_eq_false c1
  obtain ⟨N, rfl⟩ : ∃ N : Nat, n = (N : Int) := ⟨n.toNat, by omega⟩
  have F1 : Hid _ := fun w => law5_fill32 ⟨#[115]⟩ w (by decide)
  have hs : (fillS ⟨#[115]⟩ 32).size = 32 := fillS_size _ _
  generalize fillS ⟨#[115]⟩ 32 = S at *
  have hsm : S.size ≤ maxLen := by rw [hs]; decide
  obtain ⟨i0, hi0, hz0, hz1, hz2⟩ := info_parts infoNS
  have PN : Hid (∀ (ao : Option Addr) (c : Nat) (LL : List NS) w1, LL.length = N → (∀ p ∈ LL, p.1.size ≤ maxLen ∧ p.2.size ≤ maxLen) → usersOk LL = true → Here w [PairsTh w.heap.size (.slice ao N c) LL] w1 → Calls Try.prog 8 #[.slice ao N c] w1 fun e w' => ∃ p, e = .returned (.tuple #[.pointer (some ⟨p, 0, none⟩), .int .i64 0]) ∧ Here w [UsersTh K p (freshU LL), PairsTh w.heap.size (.slice ao N c) LL] w') := fun ao c LL w1 hl hm hok h => by
    obtain ⟨hn, hp⟩ := OwnP.pairs (h.pairs 0 rfl)
    have := Here.newUsers K h ao N c (fun i => LL.getD i nsNone) hp (by unfold maxLen; omega) (fun i hi => hm _ (getD_memU LL i (by omega))) (by rw [show N = LL.length from hl.symm, listU_getD]; exact hok)
    rw [show listU (fun i => LL.getD i nsNone) N = LL by rw [show N = LL.length from hl.symm, listU_getD]] at this
    exact this
  have PM : Hid (∀ (ao : Option Addr) (c : Nat) (LL : List NS) w1, LL.length = N → (∀ p ∈ LL, p.1.size ≤ maxLen ∧ p.2.size ≤ maxLen) → usersOk LL = false → Here w [PairsTh w.heap.size (.slice ao N c) LL] w1 → Calls Try.prog 8 #[.slice ao N c] w1 fun e w' => e = .returned (.tuple #[.pointer none, .int .i64 1]) ∧ Here w [PairsTh w.heap.size (.slice ao N c) LL] w') := fun ao c LL w1 hl hm hok h => by
    obtain ⟨hn, hp⟩ := OwnP.pairs (h.pairs 0 rfl)
    exact Here.newUsersNo K h ao N c (fun i => LL.getD i nsNone) hp (by unfold maxLen; omega) (fun i hi => hm _ (getD_memU LL i (by omega))) (by rw [show N = LL.length from hl.symm, listU_getD]; exact hok)
  have HS : Hid (∀ k, k ≤ 30 → ∀ p ∈ manyU S k, p.1.size ≤ maxLen ∧ p.2.size ≤ maxLen) := fun k hk p hp => by
    obtain ⟨j, hj, rfl⟩ := List.mem_map.1 hp
    have := List.mem_range.1 hj
    exact ⟨by show (nmU j).size ≤ maxLen; rw [nmU_size j (by omega)]; decide, hsm⟩
  have HOK : Hid (usersOk (manyU S N) = decide (N ≤ 20)) := manyU_ok S hs N (by omega)
  go_enter Try.func4, Try.ntmps4
  go_wp2_with fail
  with_reducible refine (PA.out _).mono ?_
  rintro e w1 ⟨rfl, b1⟩
  clear PA
  have H2 : Hid _ := (Here.start' b1).newPairs w.heap.size
  clear b1
  go_wp2_with fail
  go_loopw [5, 6] (fun v i wr => ∃ k : Nat, k ≤ N ∧ i = .int .i64 k ∧ Here w [PairsTh w.heap.size v (manyU S k)] wr) (fun _ i _ => N - (intOf i).toNat)
  case atStart => exact ⟨0, Nat.zero_le _, rfl, H2.out⟩
  case round =>
    clear H2
    obtain ⟨k, hkn, rfl, hh⟩ := hrel
    have own := hh.pairs 0 rfl
    obtain ⟨ao, cap, hv, hao⟩ := own.shape
    rw [manyU_len] at hv
    subst hv
    by_cases hlt : k < N
    · have dlt : decide ((k : Int) < (N : Int)) = true := decide_eq_true (by omega)
      have e1 : Int.tmod (k : Int) 26 = ((k % 26 : Nat) : Int) := by rw [Int.tmod_eq_emod_of_nonneg (by omega)]; omega
      have e2 : Int.tdiv (k : Int) 26 = ((k / 26 : Nat) : Int) := by rw [Int.tdiv_eq_ediv_of_nonneg (by omega)]; omega
      have hnm : nmU k = ⟨#[117]⟩ ++ str [UInt8.ofNat (97 + k % 26), UInt8.ofNat (97 + k / 26)] := rfl
      have hNS := nmU_size k (by omega)
      have r1 : k % 26 < 26 := Nat.mod_lt _ (by decide)
      have q1 : k / 26 < 2 := by omega
      generalize k % 26 = r at *
      generalize k / 26 = q at *
      have f0 : IntKind.i64.wrap (q : Int) = (q : Int) := by rw [IntKind.wrap_i64]; omega
      have f1 : IntKind.i64.wrap (97 + (r : Int)) = 97 + (r : Int) := by rw [IntKind.wrap_i64]; omega
      have f2 : IntKind.u8.wrap (97 + (r : Int)) = 97 + (r : Int) := by rw [IntKind.wrap_u8]; omega
      have f3 : IntKind.i64.wrap (97 + (q : Int)) = 97 + (q : Int) := by rw [IntKind.wrap_i64]; omega
      have f4 : IntKind.u8.wrap (97 + (q : Int)) = 97 + (q : Int) := by rw [IntKind.wrap_u8]; omega
      have t1 : ((UInt8.ofNat (97 + r)).toNat : Int) = 97 + (r : Int) := by rw [UInt8.toNat_ofNat']; omega
      have t2 : ((UInt8.ofNat (97 + q)).toNat : Int) = 97 + (q : Int) := by rw [UInt8.toNat_ofNat']; omega
      have hrow : RowIs (wr.alloc (.cells #[.int .u8 (97 + (r : Int)), .int .u8 (97 + (q : Int))] 5)).drew wr.heap.size 5 (cells8 [UInt8.ofNat (97 + r), UInt8.ofNat (97 + q)]) := by
        have e : cells8 [UInt8.ofNat (97 + r), UInt8.ofNat (97 + q)] = [.int .u8 (97 + (r : Int)), .int .u8 (97 + (q : Int))] := by
          show [Value.int .u8 ((UInt8.ofNat (97 + r)).toNat : Int), .int .u8 ((UInt8.ofNat (97 + q)).toNat : Int)] = _
          rw [t1, t2]
        rw [e]
        exact (RowIs.new wr 5 _).drew
      have hcv := row_string14 hrow (n := 2) rfl
      have hsz : (str [UInt8.ofNat (97 + r), UInt8.ofNat (97 + q)]).size = 2 := rfl
      generalize str [UInt8.ofNat (97 + r), UInt8.ofNat (97 + q)] = QQ at *
      have hln : ¬ (9223372036854775807 < (⟨#[117]⟩ : ByteArray).size + QQ.size) := by rw [hsz]; decide
      have hln2 : ¬ (9223372036854775807 < 1 + QQ.size) := by rw [hsz]; decide
      have hln3 : ¬ ((9223372036854775807 : Int) < 1 + (QQ.size : Int)) := by rw [hsz]; decide
      have own2 : ∀ o1 o2, ((wr.alloc o1).alloc o2).drew.ownsRow w.heap.size 29 2 (.slice ao k cap) k (cellsP (manyU S k)) := fun o1 o2 => by
        have h1 : OwnP ((wr.alloc o1).alloc o2).drew w.heap.size (.slice ao k cap) (manyU S k) := ((hh.alloc o1).alloc o2).drew.pairs 0 rfl
        unfold OwnP at h1
        rwa [manyU_len] at h1
      have HH : Hid (∀ o1 o2, Here w [PairsTh w.heap.size (.slice ao k cap) (manyU S k)] ((wr.alloc o1).alloc o2).drew) := fun o1 o2 => ((hh.alloc o1).alloc o2).drew
      have hsz0 := hh.sz
      have hml := manyU_len S k
      have HML : Hid _ := hml
      have HMM : Hid (manyU S (k + 1) = manyU S k ++ [(⟨#[117]⟩ ++ QQ, S)]) := by rw [← hnm]; exact manyU_more S k
      clear hrow own hh hml t1 t2 hnm hNS hsz r1 q1
      generalize manyU S k = LL at *
      go_wp2_with fail
      simp only [opConvU_is]
      have hop := opConvU_back
      go_region_held3 (fun _ => True) (exact True.intro) (first | (go_at_call 9; with_reducible refine (F1.out _).mono ?_; rintro e w' ⟨rfl, rfl⟩) | (refine step_append_two _ rfl (.tmp 26) (.tmp 40) 34 rfl w.heap.size 29 i0 (.agg #[.string ⟨#[]⟩, .string ⟨#[]⟩]) 2 32 Try.underlying34 hi0 hz0 hz1 hz2 rfl (by decide) (.slice ao k cap) k (cellsP LL) rfl (own2 _ _) ⟨wr.heap.size + 1, 0, none⟩ 1 1 [.string (⟨#[117]⟩ ++ QQ), .string S] rfl rfl (by have := cells_new (wr.alloc (.cells #[.int .u8 (97 + (r : Int)), .int .u8 (97 + (q : Int))] 5)) 29 [.string (⟨#[117]⟩ ++ QQ), .string S]; simpa using this) (by intro u hu; simp at hu; rcases hu with rfl | rfl <;> rfl) (by unfold maxLen; omega) (by omega) (by simp; omega) ?_; intro v' w3 ho3 hg3 hat3))
      all_goals
        have hz9 : ((wr.alloc (.cells #[.int .u8 (97 + (r : Int)), .int .u8 (97 + (q : Int))] 5)).alloc (.cells #[.string (⟨#[117]⟩ ++ QQ), .string S] 29)).drew.heap.size = wr.heap.size + 2 := by simp
        have h9 := (HH.out (.cells #[.int .u8 (97 + (r : Int)), .int .u8 (97 + (q : Int))] 5) (.cells #[.string (⟨#[117]⟩ ++ QQ), .string S] 29)).growP 0 rfl (OwnP.more (x := (⟨#[117]⟩ ++ QQ, S)) HML.out ho3) hg3 hat3
        clear ho3 hg3 hat3
        go_wp2
        go_roundw
        case rel => exact ⟨k + 1, by omega, by go_num, by rw [HMM.out]; exact h9⟩
        case measure => simp [intOf]; omega
    · obtain rfl : k = N := by omega
      have dlt : decide ((k : Int) < (k : Int)) = false := by simp
      have hml := manyU_len S k
      clear F1
      cases twice with
      | false =>
        by_cases h20 : k ≤ 20
        · have d20 : decide ((k : Int) ≤ 20) = true := decide_eq_true (by omega)
          have hok : usersOk (manyU S k) = true := by rw [HOK.out]; exact decide_eq_true h20
          have PA2 := PN.out ao cap (manyU S k) _ hml (HS.out k (by omega)) hok hh
          clear hh own PN PM
          go_wp2_with fail
          with_reducible refine PA2.mono ?_
          rintro e w3 ⟨p, rfl, h3⟩
          have PN2 := h3.userNames 0 rfl
          clear PA2
          go_wp2_with fail
          with_reducible refine PN2.mono ?_
          rintro e w4 ⟨a4, c4, L4, rfl, hN4, h4⟩
          have hl4 : L4.length = k := by rw [hN4.len]; unfold freshU; rw [List.length_map]; exact hml
          rw [hl4]
          have HB : Hid _ := h4.bel
          clear h4 PN2 h3 hl4
          go_wp2
          go_ret
          exact ⟨rfl, HB.out⟩
        · have d20 : decide ((k : Int) ≤ 20) = false := decide_eq_false (by omega)
          have hok : usersOk (manyU S k) = false := by rw [HOK.out]; exact decide_eq_false h20
          have PA2 := PM.out ao cap (manyU S k) _ hml (HS.out k (by omega)) hok hh
          clear hh own PN PM
          go_wp2_with fail
          with_reducible refine PA2.mono ?_
          rintro e w3 ⟨rfl, h3⟩
          go_wp2
          go_ret
          exact ⟨rfl, h3.bel⟩
      | true =>
        by_cases h1 : 1 < k
        · have dk : decide ((1 : Int) < (k : Int)) = true := decide_eq_true (by omega)
          obtain ⟨g, hg⟩ : ∃ g, ao = some ⟨g, 0, none⟩ := by
            rcases own.2 with ⟨hv, hn⟩ | ⟨g, c, cur, hv, _⟩
            · rw [hml] at hn; omega
            · injection hv with e1 _ _; exact ⟨g, e1⟩
          subst hg
          have hok := manyU_twice S k h1
          have hset := hh.setName 0 rfl (k - 1) (by rw [hml]; omega) (nmU 0)
          rw [manyU_at S k (k - 1) (by omega)] at hset
          replace hset : Here w [PairsTh w.heap.size (.slice (some ⟨g, 0, none⟩) k cap) ((manyU S k).set (k - 1) (nmU 0, S))] _ := hset
          have hal : ((manyU S k).set (k - 1) (nmU 0, S)).length = k := by rw [List.length_set]; exact hml
          have PA2 := PM.out (some ⟨g, 0, none⟩) cap ((manyU S k).set (k - 1) (nmU 0, S)) _ hal (fun p hp => by
            rcases List.mem_or_eq_of_mem_set hp with hp | rfl
            · exact HS.out k (by omega) p hp
            · exact ⟨by show (nmU 0).size ≤ maxLen; rw [nmU_size 0 (by omega)]; decide, hsm⟩) hok hset
          obtain ⟨x1, x2⟩ := cellsP_at (manyU S k) 0 (by rw [hml]; omega)
          rw [manyU_at S k 0 (by omega)] at x1
          obtain ⟨y1, y2⟩ := cellsP_at (manyU S k) (k - 1) (by rw [hml]; omega)
          have own' : wr.ownsRow w.heap.size 29 2 (.slice (some ⟨g, 0, none⟩) k cap) k (cellsP (manyU S k)) := by
            unfold OwnP at own
            rwa [hml] at own
          have c0 : wr.cell? ⟨g, 0, none⟩ = some (.string (nmU 0)) := (World.ownsRow.cellAt own' 0 (by omega)).trans x1
          have c1 := (World.ownsRow.cellAt own' ((k - 1) * 2) (by omega)).trans y1
          have z1 := World.ownsRow.frozenAt own' ((k - 1) * 2)
          obtain ⟨j, hj⟩ : ∃ j, k - 1 = j := ⟨_, rfl⟩
          rw [hj] at c1 z1 PA2
          have e1 : IntKind.i64.wrap ((k : Int) - 1) = (j : Int) := by rw [IntKind.wrap_i64]; omega
          have j0 : (0 : Int) ≤ (j : Int) := by omega
          have j1 : (j : Int) < (k : Int) := by omega
          have j2 : (0 : Int) < (k : Int) := by omega
          have d20 : ∃ B, decide ((k : Int) ≤ 20) = B := ⟨_, rfl⟩
          obtain ⟨B, d20⟩ := d20
          clear hh own own' hset x1 x2 y1 y2 PN PM hok hal
          generalize nmU 0 = N0 at *
          go_wp2_with fail
          with_reducible refine PA2.mono ?_
          rintro e w3 ⟨rfl, h3⟩
          cases B with
          | true =>
            go_wp2
            go_ret
            exact ⟨rfl, h3.bel⟩
          | false =>
            go_wp2
            go_ret
            exact ⟨rfl, h3.bel⟩
        · have dk : decide ((1 : Int) < (k : Int)) = false := decide_eq_false (by omega)
          have d20 : decide ((k : Int) ≤ 20) = true := decide_eq_true (by omega)
          have hok : usersOk (manyU S k) = true := by rw [HOK.out]; exact decide_eq_true (by omega)
          have PA2 := PN.out ao cap (manyU S k) _ hml (HS.out k (by omega)) hok hh
          clear hh own PN PM
          go_wp2_with fail
          with_reducible refine PA2.mono ?_
          rintro e w3 ⟨p, rfl, h3⟩
          have PN2 := h3.userNames 0 rfl
          clear PA2
          go_wp2_with fail
          with_reducible refine PN2.mono ?_
          rintro e w4 ⟨a4, c4, L4, rfl, hN4, h4⟩
          have hl4 : L4.length = k := by rw [hN4.len]; unfold freshU; rw [List.length_map]; exact hml
          rw [hl4]
          have HB : Hid _ := h4.bel
          clear h4 PN2 h3 hl4
          go_wp2
          go_ret
          exact ⟨rfl, HB.out⟩

end Go.Proofs.Ytjemklgfenciaaa
