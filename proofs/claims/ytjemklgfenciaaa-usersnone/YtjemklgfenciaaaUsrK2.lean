/-
  Package users: Right, Fail, Good, Locked, Fails, Secret.
-/
import Derived.Test.YtjemklgfenciaaaUsrK1
import Derived.Test.YtjemklgfenciaaaUsr8
namespace Go.Proofs.Ytjemklgfenciaaa
open Go.RowKit
set_option linter.unusedVariables false
set_option maxRecDepth 100000
set_option linter.unusedSimpArgs false

set_option maxHeartbeats 1000000 in
theorem isName_U (s : ByteArray) (w : World) (hs : s.size ≤ maxLen) : Calls Try.prog 26 #[.string s] w fun e w' => e = .returned (.bool (nameOkU s)) ∧ w = w' := by
  unfold maxLen at hs
  have HB : Hid (∀ k (h : k < s.size), byteOkU (s[k]'h) = false → nameOkU s = false) := fun k h hb => nameOkU_bad s k h hb
  have HG : Hid ((∀ k (hk : k < s.size), byteOkU (s[k]'hk) = true) → nameOkU s = decide (1 ≤ s.size ∧ s.size ≤ 20)) := nameOkU_good s
  by_cases g0 : s.size = 0
  · have g1 : ((s.size : Int) == 0) = true := by rw [g0]; rfl
    have e : nameOkU s = false := by rw [nameOkU_is, decide_eq_false (by omega)]; rfl
    rw [e]
    go_enter Try.func26, Try.ntmps26
    go_wp2
    go_ret
    exact ⟨rfl, rfl⟩
  · have g1 : ((s.size : Int) == 0) = false := beq_eq_false_iff_ne.2 (by omega)
    by_cases g2 : 20 < s.size
    · have g3 : decide (20 < (s.size : Int)) = true := decide_eq_true (by omega)
      have e : nameOkU s = false := by rw [nameOkU_is, decide_eq_false (by omega)]; rfl
      rw [e]
      go_enter Try.func26, Try.ntmps26
      go_wp2
      go_ret
      exact ⟨rfl, rfl⟩
    · have g3 : decide (20 < (s.size : Int)) = false := decide_eq_false (by omega)
      have HE : Hid (decide (1 ≤ s.size ∧ s.size ≤ 20) = true) := decide_eq_true (by omega)
      clear g0
      go_enter Try.func26, Try.ntmps26
      go_wp2
      go_loopw [14] (fun i wr => ∃ k : Nat, k ≤ s.size ∧ i = .int .i64 k ∧ w = wr ∧ Hid (∀ j (hj : j < s.size), j < k → byteOkU (s[j]'hj) = true)) (fun i _ => s.size - (intOf i).toNat)
      case atStart => exact ⟨0, Nat.zero_le _, rfl, rfl, fun j _ h => absurd h (Nat.not_lt_zero _)⟩
      case round =>
        obtain ⟨k, hk, rfl, rfl, hj⟩ := hrel
        by_cases hlt : k < s.size
        · have dlt : decide ((k : Int) < (s.size : Int)) = true := decide_eq_true (by omega)
          have i0 : (0 : Int) ≤ (k : Int) := by omega
          have i1 : (k : Int) < (s.size : Int) := by omega
          obtain ⟨y, hy⟩ : ∃ y : UInt8, s[k]'hlt = y := ⟨_, rfl⟩
          have hbk := HB.out k hlt
          rw [hy] at hbk
          by_cases h1 : (y.toNat : Int) < 33
          · have d1 : decide ((y.toNat : Int) < 33) = true := decide_eq_true h1
            have HF : Hid (nameOkU s = false) := hbk (decide_eq_false (by omega))
            clear hbk
            go_wp2
            go_ret
            exact ⟨by rw [HF.out]; rfl, rfl⟩
          · have d1 : decide ((y.toNat : Int) < 33) = false := decide_eq_false h1
            by_cases h2 : 126 < (y.toNat : Int)
            · have d2 : decide (126 < (y.toNat : Int)) = true := decide_eq_true h2
              have HF : Hid (nameOkU s = false) := hbk (decide_eq_false (by omega))
              clear hbk
              go_wp2
              go_ret
              exact ⟨by rw [HF.out]; rfl, rfl⟩
            · have d2 : decide (126 < (y.toNat : Int)) = false := decide_eq_false h2
              have hnew : Hid (∀ j (hj : j < s.size), j < k + 1 → byteOkU (s[j]'hj) = true) := fun j hj2 hl => by
                by_cases e : j = k
                · subst e; rw [hy]; exact decide_eq_true (by omega)
                · exact hj.out j hj2 (by omega)
              clear hbk
              go_wp2
              go_roundw
              case rel => exact ⟨k + 1, by omega, by go_num, (by first | rfl | trivial), hnew⟩
              case measure => simp [intOf]; omega
        · obtain rfl : k = s.size := by omega
          have dlt : decide ((s.size : Int) < (s.size : Int)) = false := by simp
          have he : Hid (nameOkU s = true) := (HG.out (fun j hj2 => hj.out j hj2 hj2)).trans HE.out
          go_wp2
          go_ret
          exact ⟨by rw [he.out]; rfl, rfl⟩

theorem right_U (w : World) (n s : ByteArray) (hn : n.size ≤ maxLen) (hs : s.size ≤ maxLen) : Calls Try.prog 16 #[.agg #[.string n, .string s]] w fun e w' => e = .returned (.bool (userOkU n s)) ∧ Below w.heap.size w w' := by
  have PN : Hid _ := fun w1 => isName_U n w1 hn
  have hd : ((s.size : Int) == 32) = decide (s.size = 32) := by
    by_cases h : s.size = 32
    · rw [decide_eq_true h, h]; rfl
    · rw [decide_eq_false h]; exact beq_eq_false_iff_ne.2 (by omega)
  have he : Hid (userOkU n s = (nameOkU n && decide (s.size = 32))) := rfl
  rw [he.out]
  clear he
  generalize nameOkU n = B at *
  generalize decide (s.size = 32) = D at *
  have r1 := RowIs.new w 29 [.string n, .string s]
  have b1 : Below w.heap.size w (w.alloc (.cells #[.string n, .string s] 29)) := (Below.refl _ _).alloc (Nat.le_refl _) _
  have c0 := r1.cellAt (j := 0) rfl
  have c1 := r1.cellAt (j := 1) rfl
  cases B with
  | true =>
    go_enter Try.func16, Try.ntmps16
    go_wp2_with fail
    with_reducible refine (PN.out _).mono ?_
    rintro e w' ⟨rfl, rfl⟩
    go_wp2
    go_ret
    exact ⟨rfl, b1⟩
  | false =>
    go_enter Try.func16, Try.ntmps16
    go_wp2_with fail
    with_reducible refine (PN.out _).mono ?_
    rintro e w' ⟨rfl, rfl⟩
    go_wp2
    go_ret
    exact ⟨rfl, b1⟩

section
variable {w : World} {p m nn : Nat} {D : DataW Unit} {blk : Nat → Nat} {B : List Usr}
/-- What is left to show behind a turned account. -/
theorem StU.turn (h : StU w p m nn D blk B) {n : ByteArray} (hh : hasU B n = true) : ∀ (w' : World) (u : Usr), u.name = n → u.secret = (atU B n).secret → u.fails < 3 → Touch (fun k => k = blk (idxU B n)) w w' →
    RowIs w' (blk (idxU B n)) 58 (accRow u) → StU w' p m nn D blk (putU B n u) ∧ Touch (blocksU p m blk B) w w' := fun w' u h1 h2 h3 h4 h5 => ⟨h.put hh h1 h2 h3 h4 h5, h.touch hh h4⟩

theorem fail_noU (h : StU w p m nn D blk B) {n : ByteArray} (hn : n.size ≤ maxLen) (hh : hasU B n = false) (now : Int) :
    Calls Try.prog 10 #[.pointer (some ⟨p, 0, none⟩), .string n, .int .i64 now] w fun e w' => e = .returned (.bool false) ∧ w' = w := by
  have PF : Hid _ := fun (_ : Unit) => find_no h hn hh
  clear h
  go_enter Try.func10, Try.ntmps10
  go_wp2_with fail
  with_reducible refine (PF.out ()).mono ?_
  rintro e w' ⟨rfl, rfl⟩
  go_wp2
  go_ret
  exact ⟨rfl, rfl⟩
theorem fail_yesU (h : StU w p m nn D blk B) {n : ByteArray} (hn : n.size ≤ maxLen) (hh : hasU B n = true) (now : Int) (hw : I64U now) :
    Calls Try.prog 10 #[.pointer (some ⟨p, 0, none⟩), .string n, .int .i64 now] w fun e w' => e = .returned (.bool (lastU (atU B n))) ∧ StU w' p m nn D blk (putU B n (failU (atU B n) now)) ∧ Touch (blocksU p m blk B) w w' := by
  have PF : Hid _ := fun (_ : Unit) => find_yes h hn hh
  have hr := h.row hh
  have hf := h.fewer hh
  have HK : Hid _ := h.turn hh
  have HN : Hid _ := atU_name hh
  obtain ⟨hn1, hn2⟩ := failU_name (atU B n) now
  have HN1 : Hid ((failU (atU B n) now).name = n) := hn1.trans HN.out
  have HN2 : Hid _ := hn2
  have hst : (failU (atU B n) now) = (if (atU B n).fails + 1 < 3 then ⟨(atU B n).name, (atU B n).secret, (atU B n).fails + 1, (atU B n).locked, (atU B n).till⟩ else ⟨(atU B n).name, (atU B n).secret, 0, true, min (now + 20) 9223372036854775807⟩) := rfl
  clear h hn1 hn2 HN
  generalize blk (idxU B n) = b at *
  generalize hU : failU (atU B n) now = U at *
  clear hU
  have hl : lastU (atU B n) = decide (3 ≤ (atU B n).fails + 1) := rfl
  rw [hl]
  clear hl
  generalize atU B n = u at *
  have HR : Hid _ := hr
  have PA : Hid _ := fun (_ : Unit) => i64_addU ⟨b, 1, none⟩ (u.fails : Int) 1 w (hr.cellAt rfl) (hr.frozen 1) (by omega) (by omega)
  have hr1 := hr.set 1 (.int .i64 ((u.fails : Int) + 1))
  have ht1 := (Touch.refl (fun k => k = b) w).set (p := ⟨b, 1, none⟩) (Or.inl rfl) (.int .i64 ((u.fails : Int) + 1))
  have PL : Hid _ := fun (_ : Unit) => lock_U _ b u now hw _ hr1
  by_cases hlt : u.fails + 1 < 3
  · rw [if_pos hlt] at hst
    have HE : Hid _ := HK.out (w.setCell ⟨b, 1, none⟩ (.int .i64 ((u.fails : Int) + 1))) U HN1.out HN2.out (by rw [hst]; exact hlt) ht1 (by rw [hst]; exact hr1)
    have d0 : decide (3 ≤ u.fails + 1) = false := decide_eq_false (by omega)
    have d1 : decide ((u.fails : Int) + 1 < 3) = true := decide_eq_true (by omega)
    rw [d0]
    clear hr hr1 ht1 HR PL HK HN1 HN2 hst d0
    generalize (u.fails : Int) + 1 = F at *
    go_enter Try.func10, Try.ntmps10
    go_wp2_with fail
    with_reducible refine (PF.out ()).mono ?_
    rintro e w' ⟨rfl, rfl⟩
    go_wp2_with fail
    with_reducible refine (PA.out ()).mono ?_
    rintro e w' ⟨rfl, rfl⟩
    go_wp2
    go_ret
    exact ⟨rfl, HE.out⟩
  · rw [if_neg hlt] at hst
    have hz : U.fails < 3 := by rw [hst]; show 0 < 3; decide
    have HE : Hid (∀ w', Touch (fun k => k = b) (w.setCell ⟨b, 1, none⟩ (.int .i64 ((u.fails : Int) + 1))) w' → RowIs w' b 58 [.string u.secret, .int .i64 0, .int .u32 1, .int .i64 (min (now + 20) 9223372036854775807)] → StU w' p m nn D blk (putU B n U) ∧ Touch (blocksU p m blk B) w w') := fun w' t1 r1 =>
      HK.out w' U HN1.out HN2.out hz (ht1.trans t1) (by rw [hst]; exact r1)
    have d0 : decide (3 ≤ u.fails + 1) = true := decide_eq_true (by omega)
    have d1 : decide ((u.fails : Int) + 1 < 3) = false := decide_eq_false (by omega)
    rw [d0]
    clear hr hr1 ht1 HR HK HN1 HN2 hst d0 hz
    generalize (u.fails : Int) + 1 = F at *
    go_enter Try.func10, Try.ntmps10
    go_wp2_with fail
    with_reducible refine (PF.out ()).mono ?_
    rintro e w' ⟨rfl, rfl⟩
    go_wp2_with fail
    with_reducible refine (PA.out ()).mono ?_
    rintro e w' ⟨rfl, rfl⟩
    go_wp2_with fail
    with_reducible refine (PL.out ()).mono ?_
    rintro e w' ⟨rfl, t1, r1⟩
    have HF := HE.out w' t1 r1
    clear t1 r1
    go_wp2
    go_ret
    exact ⟨rfl, HF⟩

theorem good_noU (h : StU w p m nn D blk B) {n : ByteArray} (hn : n.size ≤ maxLen) (hh : hasU B n = false) :
    Calls Try.prog 11 #[.pointer (some ⟨p, 0, none⟩), .string n] w fun e w' => e = .returned (.tuple #[]) ∧ w' = w := by
  have PF : Hid _ := fun (_ : Unit) => find_no h hn hh
  clear h
  go_enter Try.func11, Try.ntmps11
  go_wp2_with fail
  with_reducible refine (PF.out ()).mono ?_
  rintro e w' ⟨rfl, rfl⟩
  go_wp2
  go_end0
  exact ⟨rfl, rfl⟩
theorem good_yesU (h : StU w p m nn D blk B) {n : ByteArray} (hn : n.size ≤ maxLen) (hh : hasU B n = true) :
    Calls Try.prog 11 #[.pointer (some ⟨p, 0, none⟩), .string n] w fun e w' => e = .returned (.tuple #[]) ∧ StU w' p m nn D blk (putU B n (goodU (atU B n))) ∧ Touch (blocksU p m blk B) w w' := by
  have PF : Hid _ := fun (_ : Unit) => find_yes h hn hh
  have hr := h.row hh
  have HE : Hid _ := h.turn hh (w.setCell ⟨blk (idxU B n), 1, none⟩ (.int .i64 0)) (goodU (atU B n)) (atU_name hh) rfl (by show 0 < 3; decide) ((Touch.refl (fun k => k = blk (idxU B n)) w).set (p := ⟨blk (idxU B n), 1, none⟩) (Or.inl rfl) (.int .i64 0)) (hr.set 1 (.int .i64 0))
  have PS : Hid _ := fun (_ : Unit) => i64_storeU ⟨blk (idxU B n), 1, none⟩ _ 0 w (hr.cellAt rfl) (hr.frozen 1)
  clear h hr
  generalize blk (idxU B n) = b at *
  go_enter Try.func11, Try.ntmps11
  go_wp2_with fail
  with_reducible refine (PF.out ()).mono ?_
  rintro e w' ⟨rfl, rfl⟩
  go_wp2_with fail
  with_reducible refine (PS.out ()).mono ?_
  rintro e w' ⟨rfl, rfl⟩
  go_wp2
  go_end0
  exact ⟨rfl, HE.out⟩

theorem locked_noU (h : StU w p m nn D blk B) {n : ByteArray} (hn : n.size ≤ maxLen) (hh : hasU B n = false) (now : Int) :
    Calls Try.prog 12 #[.pointer (some ⟨p, 0, none⟩), .string n, .int .i64 now] w fun e w' => e = .returned (.bool false) ∧ w' = w := by
  have PF : Hid _ := fun (_ : Unit) => find_no h hn hh
  clear h
  go_enter Try.func12, Try.ntmps12
  go_wp2_with fail
  with_reducible refine (PF.out ()).mono ?_
  rintro e w' ⟨rfl, rfl⟩
  go_wp2
  go_ret
  exact ⟨rfl, rfl⟩
theorem locked_yesU (h : StU w p m nn D blk B) {n : ByteArray} (hn : n.size ≤ maxLen) (hh : hasU B n = true) (now : Int) :
    Calls Try.prog 12 #[.pointer (some ⟨p, 0, none⟩), .string n, .int .i64 now] w fun e w' => e = .returned (.bool ((atU B n).locked && decide (now ≤ (atU B n).till))) ∧ w' = w := by
  have PF : Hid _ := fun (_ : Unit) => find_yes h hn hh
  have hr := h.row hh
  have PB : Hid _ := fun (_ : Unit) => bool_loadU ⟨blk (idxU B n), 2, none⟩ (atU B n).locked w (hr.cellAt rfl)
  have PT : Hid _ := fun (_ : Unit) => i64_loadU ⟨blk (idxU B n), 3, none⟩ (atU B n).till w (hr.cellAt rfl)
  clear h hr
  generalize blk (idxU B n) = b at *
  generalize (atU B n).till = T at *
  generalize (atU B n).locked = L at *
  cases L with
  | true =>
    go_enter Try.func12, Try.ntmps12
    go_wp2_with fail
    with_reducible refine (PF.out ()).mono ?_
    rintro e w' ⟨rfl, rfl⟩
    go_wp2_with fail
    with_reducible refine (PB.out ()).mono ?_
    rintro e w' ⟨rfl, rfl⟩
    go_wp2_with fail
    with_reducible refine (PT.out ()).mono ?_
    rintro e w' ⟨rfl, rfl⟩
    go_wp2
    go_ret
    exact ⟨rfl, rfl⟩
  | false =>
    go_enter Try.func12, Try.ntmps12
    go_wp2_with fail
    with_reducible refine (PF.out ()).mono ?_
    rintro e w' ⟨rfl, rfl⟩
    go_wp2_with fail
    with_reducible refine (PB.out ()).mono ?_
    rintro e w' ⟨rfl, rfl⟩
    go_wp2
    go_ret
    exact ⟨rfl, rfl⟩

theorem fails_noU (h : StU w p m nn D blk B) {n : ByteArray} (hn : n.size ≤ maxLen) (hh : hasU B n = false) :
    Calls Try.prog 13 #[.pointer (some ⟨p, 0, none⟩), .string n] w fun e w' => e = .returned (.int .i64 0) ∧ w' = w := by
  have PF : Hid _ := fun (_ : Unit) => find_no h hn hh
  clear h
  go_enter Try.func13, Try.ntmps13
  go_wp2_with fail
  with_reducible refine (PF.out ()).mono ?_
  rintro e w' ⟨rfl, rfl⟩
  go_wp2
  go_ret
  exact ⟨rfl, rfl⟩
theorem fails_yesU (h : StU w p m nn D blk B) {n : ByteArray} (hn : n.size ≤ maxLen) (hh : hasU B n = true) :
    Calls Try.prog 13 #[.pointer (some ⟨p, 0, none⟩), .string n] w fun e w' => e = .returned (.int .i64 ((atU B n).fails : Int)) ∧ w' = w := by
  have PF : Hid _ := fun (_ : Unit) => find_yes h hn hh
  have hr := h.row hh
  have PT : Hid _ := fun (_ : Unit) => i64_loadU ⟨blk (idxU B n), 1, none⟩ ((atU B n).fails : Int) w (hr.cellAt rfl)
  clear h hr
  generalize blk (idxU B n) = b at *
  generalize ((atU B n).fails : Int) = T at *
  go_enter Try.func13, Try.ntmps13
  go_wp2_with fail
  with_reducible refine (PF.out ()).mono ?_
  rintro e w' ⟨rfl, rfl⟩
  go_wp2_with fail
  with_reducible refine (PT.out ()).mono ?_
  rintro e w' ⟨rfl, rfl⟩
  go_wp2
  go_ret
  exact ⟨rfl, rfl⟩

theorem secret_noU (h : StU w p m nn D blk B) {n : ByteArray} (hn : n.size ≤ maxLen) (hh : hasU B n = false) :
    Calls Try.prog 15 #[.pointer (some ⟨p, 0, none⟩), .string n] w fun e w' => e = .returned (.tuple #[.string ⟨#[]⟩, .bool false]) ∧ w' = w := by
  have PF : Hid _ := fun (_ : Unit) => find_no h hn hh
  clear h
  go_enter Try.func15, Try.ntmps15
  go_wp2_with fail
  with_reducible refine (PF.out ()).mono ?_
  rintro e w' ⟨rfl, rfl⟩
  go_wp2
  go_ret2
  exact ⟨rfl, rfl⟩
theorem secret_yesU (h : StU w p m nn D blk B) {n : ByteArray} (hn : n.size ≤ maxLen) (hh : hasU B n = true) :
    Calls Try.prog 15 #[.pointer (some ⟨p, 0, none⟩), .string n] w fun e w' => e = .returned (.tuple #[.string (atU B n).secret, .bool true]) ∧ Below w.heap.size w w' := by
  have PF : Hid _ := fun (_ : Unit) => find_yes h hn hh
  have hr := h.row hh
  have hc := hr.cellAt (j := 0) rfl
  have hz : (atU B n).secret.size ≤ 1000000 := by
    have h1 := (h.ok.each _ (List.mem_of_getElem? (atU_get hh))).1
    unfold userOkU at h1
    rw [Bool.and_eq_true, decide_eq_true_eq] at h1
    omega
  have PC : Hid _ := fun w1 => strings_cloneU (atU B n).secret w1 hz
  clear h hr hz
  generalize blk (idxU B n) = b at *
  generalize (atU B n).secret = S at *
  go_enter Try.func15, Try.ntmps15
  go_wp2_with fail
  with_reducible refine (PF.out ()).mono ?_
  rintro e w' ⟨rfl, rfl⟩
  go_wp2_with fail
  with_reducible refine (PC.out _).mono ?_
  rintro e w1 ⟨rfl, b1⟩
  go_wp2
  go_ret2
  exact ⟨rfl, b1⟩
end

theorem secretNil_U (w : World) (n : ByteArray) : Calls Try.prog 15 #[.pointer none, .string n] w fun e w' => (∃ s, e = .returned (.tuple #[.string s, .bool false])) ∧ Below w.heap.size w w' := by
  have PF : Hid _ := fun w1 => find_nil w1 n
  go_enter Try.func15, Try.ntmps15
  go_wp2_with fail
  with_reducible refine (PF.out _).mono ?_
  rintro e w' ⟨rfl, rfl⟩
  go_wp2
  go_ret2
  exact ⟨⟨_, rfl⟩, Below.refl _ _⟩
theorem failNil_U (w : World) (n : ByteArray) (now : Int) : Calls Try.prog 10 #[.pointer none, .string n, .int .i64 now] w fun e w' => e = .returned (.bool false) ∧ Below w.heap.size w w' := by
  have PF : Hid _ := fun w1 => find_nil w1 n
  go_enter Try.func10, Try.ntmps10
  go_wp2_with fail
  with_reducible refine (PF.out _).mono ?_
  rintro e w' ⟨rfl, rfl⟩
  go_wp2
  go_ret
  exact ⟨rfl, Below.refl _ _⟩
theorem goodNil_U (w : World) (n : ByteArray) : Calls Try.prog 11 #[.pointer none, .string n] w fun e w' => e = .returned (.tuple #[]) ∧ Below w.heap.size w w' := by
  have PF : Hid _ := fun w1 => find_nil w1 n
  go_enter Try.func11, Try.ntmps11
  go_wp2_with fail
  with_reducible refine (PF.out _).mono ?_
  rintro e w' ⟨rfl, rfl⟩
  go_wp2
  go_end0
  exact ⟨rfl, Below.refl _ _⟩
theorem lockedNil_U (w : World) (n : ByteArray) (now : Int) : Calls Try.prog 12 #[.pointer none, .string n, .int .i64 now] w fun e w' => e = .returned (.bool false) ∧ Below w.heap.size w w' := by
  have PF : Hid _ := fun w1 => find_nil w1 n
  go_enter Try.func12, Try.ntmps12
  go_wp2_with fail
  with_reducible refine (PF.out _).mono ?_
  rintro e w' ⟨rfl, rfl⟩
  go_wp2
  go_ret
  exact ⟨rfl, Below.refl _ _⟩
theorem failsNil_U (w : World) (n : ByteArray) : Calls Try.prog 13 #[.pointer none, .string n] w fun e w' => e = .returned (.int .i64 0) ∧ Below w.heap.size w w' := by
  have PF : Hid _ := fun w1 => find_nil w1 n
  go_enter Try.func13, Try.ntmps13
  go_wp2_with fail
  with_reducible refine (PF.out _).mono ?_
  rintro e w' ⟨rfl, rfl⟩
  go_wp2
  go_ret
  exact ⟨rfl, Below.refl _ _⟩
theorem namesNil_U (w : World) : Calls Try.prog 14 #[.pointer none] w fun e w' => (∃ a c, e = .returned (.slice a 0 c)) ∧ Below w.heap.size w w' := by
  go_enter Try.func14, Try.ntmps14
  go_wp2
  go_ret
  exact ⟨⟨_, _, rfl⟩, Below.refl _ _⟩

end Go.Proofs.Ytjemklgfenciaaa
