/-
  Parts of this proof, one behind the other: UsrK2, UsrK4, UsrK5.
-/
import Derived.Test.YtjemklgfenciaaaGreatBun28
import Derived.Test.YtjemklgfenciaaaGreatBun26
import Derived.Test.YtjemklgfenciaaaGreatBun18
import Derived.Test.YtjemklgfenciaaaGreatBun14

/-
  Package users: Right, Fail, Good, Locked, Fails, Secret.
-/
namespace Go.Proofs.YtjemklgfenciaaaGreat
open Go.RowKit
set_option linter.unusedVariables false
set_option maxRecDepth 100000
set_option linter.unusedSimpArgs false

set_option maxHeartbeats 1000000 in
theorem isName_U (s : ByteArray) (w : World) (hs : s.size ≤ maxLen) : Calls Tryz.prog 25 #[.string s] w fun e w' => e = .returned (.bool (nameOkU s)) ∧ w = w' := by
  unfold maxLen at hs
  have HB : Hid (∀ k (h : k < s.size), byteOkU (s[k]'h) = false → nameOkU s = false) := fun k h hb => nameOkU_bad s k h hb
  have HG : Hid ((∀ k (hk : k < s.size), byteOkU (s[k]'hk) = true) → nameOkU s = decide (1 ≤ s.size ∧ s.size ≤ 20)) := nameOkU_good s
  by_cases g0 : s.size = 0
  · have g1 : ((s.size : Int) == 0) = true := by rw [g0]; rfl
    have e : nameOkU s = false := by rw [nameOkU_is, decide_eq_false (by omega)]; rfl
    rw [e]
    go_enter Tryz.func25, Tryz.ntmps25
    go_wp2
    go_ret
    exact ⟨rfl, rfl⟩
  · have g1 : ((s.size : Int) == 0) = false := beq_eq_false_iff_ne.2 (by omega)
    by_cases g2 : 20 < s.size
    · have g3 : decide (20 < (s.size : Int)) = true := decide_eq_true (by omega)
      have e : nameOkU s = false := by rw [nameOkU_is, decide_eq_false (by omega)]; rfl
      rw [e]
      go_enter Tryz.func25, Tryz.ntmps25
      go_wp2
      go_ret
      exact ⟨rfl, rfl⟩
    · have g3 : decide (20 < (s.size : Int)) = false := decide_eq_false (by omega)
      have HE : Hid (decide (1 ≤ s.size ∧ s.size ≤ 20) = true) := decide_eq_true (by omega)
      clear g0
      go_enter Tryz.func25, Tryz.ntmps25
      go_wp2
      go_loopw [14] (fun i wr => ∃ k : Nat, k ≤ s.size ∧ i = .int .i64 k ∧ w = wr ∧ Hid (∀ j (hj : j < s.size), j < k → byteOkU (s[j]'hj) = true)) (fun i _ => s.size - (intOf i).toNat)
      case atStart => exact ⟨0, Nat.zero_le _, rfl, rfl, fun j _ h => absurd h (Nat.not_lt_zero _)⟩
      case round =>
        obtain ⟨k, hk, rfl, rfl, hj⟩ := hrel
        by_cases hlt : k < s.size
        · have dlt : decide ((k : Int) < (s.size : Int)) = true := decide_eq_true (by omega)
          have i0 : (0 : Int) ≤ (k : Int) := by omega
          have i1 : (k : Int) < (s.size : Int) := by omega
          obtain ⟨y, hy⟩ : ∃ y : UInt8, s[k]'hlt = y := ⟨_, rfl⟩
          have hbk := HB.out k hlt
          rw [hy] at hbk
          by_cases h1 : (y.toNat : Int) < 33
          · have d1 : decide ((y.toNat : Int) < 33) = true := decide_eq_true h1
            have HF : Hid (nameOkU s = false) := hbk (decide_eq_false (by omega))
            clear hbk
            go_wp2
            go_ret
            exact ⟨by rw [HF.out]; rfl, rfl⟩
          · have d1 : decide ((y.toNat : Int) < 33) = false := decide_eq_false h1
            by_cases h2 : 126 < (y.toNat : Int)
            · have d2 : decide (126 < (y.toNat : Int)) = true := decide_eq_true h2
              have HF : Hid (nameOkU s = false) := hbk (decide_eq_false (by omega))
              clear hbk
              go_wp2
              go_ret
              exact ⟨by rw [HF.out]; rfl, rfl⟩
            · have d2 : decide (126 < (y.toNat : Int)) = false := decide_eq_false h2
              have hnew : Hid (∀ j (hj : j < s.size), j < k + 1 → byteOkU (s[j]'hj) = true) := fun j hj2 hl => by
                by_cases e : j = k
                · subst e; rw [hy]; exact decide_eq_true (by omega)
                · exact hj.out j hj2 (by omega)
              clear hbk
              go_wp2
              go_roundw
              case rel => exact ⟨k + 1, by omega, by go_num, (by first | rfl | trivial), hnew⟩
              case measure => simp [intOf]; omega
        · obtain rfl : k = s.size := by omega
          have dlt : decide ((s.size : Int) < (s.size : Int)) = false := by simp
          have he : Hid (nameOkU s = true) := (HG.out (fun j hj2 => hj.out j hj2 hj2)).trans HE.out
          go_wp2
          go_ret
          exact ⟨by rw [he.out]; rfl, rfl⟩

theorem right_U (w : World) (n s : ByteArray) (hn : n.size ≤ maxLen) (hs : s.size ≤ maxLen) : Calls Tryz.prog 7 #[.agg #[.string n, .string s]] w fun e w' => e = .returned (.bool (userOkU n s)) ∧ Below w.heap.size w w' := by
  have PN : Hid _ := fun w1 => isName_U n w1 hn
  have hd : ((s.size : Int) == 32) = decide (s.size = 32) := by
    by_cases h : s.size = 32
    · rw [decide_eq_true h, h]; rfl
    · rw [decide_eq_false h]; exact beq_eq_false_iff_ne.2 (by omega)
  have he : Hid (userOkU n s = (nameOkU n && decide (s.size = 32))) := rfl
  rw [he.out]
  clear he
  generalize nameOkU n = B at *
  generalize decide (s.size = 32) = D at *
  have r1 := RowIs.new w 32 [.string n, .string s]
  have b1 : Below w.heap.size w (w.alloc (.cells #[.string n, .string s] 32)) := (Below.refl _ _).alloc (Nat.le_refl _) _
  have c0 := r1.cellAt (j := 0) rfl
  have c1 := r1.cellAt (j := 1) rfl
  cases B with
  | true =>
    go_enter Tryz.func7, Tryz.ntmps7
    go_wp2_with fail
    with_reducible refine (PN.out _).mono ?_
    rintro e w' ⟨rfl, rfl⟩
    go_wp2
    go_ret
    exact ⟨rfl, b1⟩
  | false =>
    go_enter Tryz.func7, Tryz.ntmps7
    go_wp2_with fail
    with_reducible refine (PN.out _).mono ?_
    rintro e w' ⟨rfl, rfl⟩
    go_wp2
    go_ret
    exact ⟨rfl, b1⟩

section
variable {w : World} {p m nn : Nat} {D : DataW Unit} {blk : Nat → Nat} {B : List Usr}
/-- What is left to show behind a turned account. -/
theorem StU.turn (h : StU w p m nn D blk B) {n : ByteArray} (hh : hasU B n = true) : ∀ (w' : World) (u : Usr), u.name = n → u.secret = (atU B n).secret → u.fails < 3 → Touch (fun k => k = blk (idxU B n)) w w' →
    RowIs w' (blk (idxU B n)) 76 (accRow u) → StU w' p m nn D blk (putU B n u) ∧ Touch (blocksU p m blk B) w w' := fun w' u h1 h2 h3 h4 h5 => ⟨h.put hh h1 h2 h3 h4 h5, h.touch hh h4⟩

theorem fail_noU (h : StU w p m nn D blk B) {n : ByteArray} (hn : n.size ≤ maxLen) (hh : hasU B n = false) (now : Int) :
    Calls Tryz.prog 15 #[.pointer (some ⟨p, 0, none⟩), .string n, .int .i64 now] w fun e w' => e = .returned (.bool false) ∧ w' = w := by
  have PF : Hid _ := fun (_ : Unit) => find_no h hn hh
  clear h
  go_enter Tryz.func15, Tryz.ntmps15
  go_wp2_with fail
  with_reducible refine (PF.out ()).mono ?_
  rintro e w' ⟨rfl, rfl⟩
  go_wp2
  go_ret
  exact ⟨rfl, rfl⟩
theorem fail_yesU (h : StU w p m nn D blk B) {n : ByteArray} (hn : n.size ≤ maxLen) (hh : hasU B n = true) (now : Int) (hw : I64U now) :
    Calls Tryz.prog 15 #[.pointer (some ⟨p, 0, none⟩), .string n, .int .i64 now] w fun e w' => e = .returned (.bool (lastU (atU B n))) ∧ StU w' p m nn D blk (putU B n (failU (atU B n) now)) ∧ Touch (blocksU p m blk B) w w' := by
  have PF : Hid _ := fun (_ : Unit) => find_yes h hn hh
  have hr := h.row hh
  have hf := h.fewer hh
  have HK : Hid _ := h.turn hh
  have HN : Hid _ := atU_name hh
  obtain ⟨hn1, hn2⟩ := failU_name (atU B n) now
  have HN1 : Hid ((failU (atU B n) now).name = n) := hn1.trans HN.out
  have HN2 : Hid _ := hn2
  have hst : (failU (atU B n) now) = (if (atU B n).fails + 1 < 3 then ⟨(atU B n).name, (atU B n).secret, (atU B n).fails + 1, (atU B n).locked, (atU B n).till⟩ else ⟨(atU B n).name, (atU B n).secret, 0, true, min (now + 20) 9223372036854775807⟩) := rfl
  clear h hn1 hn2 HN
  generalize blk (idxU B n) = b at *
  generalize hU : failU (atU B n) now = U at *
  clear hU
  have hl : lastU (atU B n) = decide (3 ≤ (atU B n).fails + 1) := rfl
  rw [hl]
  clear hl
  generalize atU B n = u at *
  have HR : Hid _ := hr
  have PA : Hid _ := fun (_ : Unit) => i64_addU ⟨b, 1, none⟩ (u.fails : Int) 1 w (hr.cellAt rfl) (hr.frozen 1) (by omega) (by omega)
  have hr1 := hr.set 1 (.int .i64 ((u.fails : Int) + 1))
  have ht1 := (Touch.refl (fun k => k = b) w).set (p := ⟨b, 1, none⟩) (Or.inl rfl) (.int .i64 ((u.fails : Int) + 1))
  have PL : Hid _ := fun (_ : Unit) => lock_U _ b u now hw _ hr1
  by_cases hlt : u.fails + 1 < 3
  · rw [if_pos hlt] at hst
    have HE : Hid _ := HK.out (w.setCell ⟨b, 1, none⟩ (.int .i64 ((u.fails : Int) + 1))) U HN1.out HN2.out (by rw [hst]; exact hlt) ht1 (by rw [hst]; exact hr1)
    have d0 : decide (3 ≤ u.fails + 1) = false := decide_eq_false (by omega)
    have d1 : decide ((u.fails : Int) + 1 < 3) = true := decide_eq_true (by omega)
    rw [d0]
    clear hr hr1 ht1 HR PL HK HN1 HN2 hst d0
    generalize (u.fails : Int) + 1 = F at *
    go_enter Tryz.func15, Tryz.ntmps15
    go_wp2_with fail
    with_reducible refine (PF.out ()).mono ?_
    rintro e w' ⟨rfl, rfl⟩
    go_wp2_with fail
    with_reducible refine (PA.out ()).mono ?_
    rintro e w' ⟨rfl, rfl⟩
    go_wp2
    go_ret
    exact ⟨rfl, HE.out⟩
  · rw [if_neg hlt] at hst
    have hz : U.fails < 3 := by rw [hst]; show 0 < 3; decide
    have HE : Hid (∀ w', Touch (fun k => k = b) (w.setCell ⟨b, 1, none⟩ (.int .i64 ((u.fails : Int) + 1))) w' → RowIs w' b 76 [.string u.secret, .int .i64 0, .int .u32 1, .int .i64 (min (now + 20) 9223372036854775807)] → StU w' p m nn D blk (putU B n U) ∧ Touch (blocksU p m blk B) w w') := fun w' t1 r1 =>
      HK.out w' U HN1.out HN2.out hz (ht1.trans t1) (by rw [hst]; exact r1)
    have d0 : decide (3 ≤ u.fails + 1) = true := decide_eq_true (by omega)
    have d1 : decide ((u.fails : Int) + 1 < 3) = false := decide_eq_false (by omega)
    rw [d0]
    clear hr hr1 ht1 HR HK HN1 HN2 hst d0 hz
    generalize (u.fails : Int) + 1 = F at *
    go_enter Tryz.func15, Tryz.ntmps15
    go_wp2_with fail
    with_reducible refine (PF.out ()).mono ?_
    rintro e w' ⟨rfl, rfl⟩
    go_wp2_with fail
    with_reducible refine (PA.out ()).mono ?_
    rintro e w' ⟨rfl, rfl⟩
    go_wp2_with fail
    with_reducible refine (PL.out ()).mono ?_
    rintro e w' ⟨rfl, t1, r1⟩
    have HF := HE.out w' t1 r1
    clear t1 r1
    go_wp2
    go_ret
    exact ⟨rfl, HF⟩

theorem good_noU (h : StU w p m nn D blk B) {n : ByteArray} (hn : n.size ≤ maxLen) (hh : hasU B n = false) :
    Calls Tryz.prog 17 #[.pointer (some ⟨p, 0, none⟩), .string n] w fun e w' => e = .returned (.tuple #[]) ∧ w' = w := by
  have PF : Hid _ := fun (_ : Unit) => find_no h hn hh
  clear h
  go_enter Tryz.func17, Tryz.ntmps17
  go_wp2_with fail
  with_reducible refine (PF.out ()).mono ?_
  rintro e w' ⟨rfl, rfl⟩
  go_wp2
  go_end0
  exact ⟨rfl, rfl⟩
theorem good_yesU (h : StU w p m nn D blk B) {n : ByteArray} (hn : n.size ≤ maxLen) (hh : hasU B n = true) :
    Calls Tryz.prog 17 #[.pointer (some ⟨p, 0, none⟩), .string n] w fun e w' => e = .returned (.tuple #[]) ∧ StU w' p m nn D blk (putU B n (goodU (atU B n))) ∧ Touch (blocksU p m blk B) w w' := by
  have PF : Hid _ := fun (_ : Unit) => find_yes h hn hh
  have hr := h.row hh
  have HE : Hid _ := h.turn hh (w.setCell ⟨blk (idxU B n), 1, none⟩ (.int .i64 0)) (goodU (atU B n)) (atU_name hh) rfl (by show 0 < 3; decide) ((Touch.refl (fun k => k = blk (idxU B n)) w).set (p := ⟨blk (idxU B n), 1, none⟩) (Or.inl rfl) (.int .i64 0)) (hr.set 1 (.int .i64 0))
  have PS : Hid _ := fun (_ : Unit) => i64_storeU ⟨blk (idxU B n), 1, none⟩ _ 0 w (hr.cellAt rfl) (hr.frozen 1)
  clear h hr
  generalize blk (idxU B n) = b at *
  go_enter Tryz.func17, Tryz.ntmps17
  go_wp2_with fail
  with_reducible refine (PF.out ()).mono ?_
  rintro e w' ⟨rfl, rfl⟩
  go_wp2_with fail
  with_reducible refine (PS.out ()).mono ?_
  rintro e w' ⟨rfl, rfl⟩
  go_wp2
  go_end0
  exact ⟨rfl, HE.out⟩

theorem locked_noU (h : StU w p m nn D blk B) {n : ByteArray} (hn : n.size ≤ maxLen) (hh : hasU B n = false) (now : Int) :
    Calls Tryz.prog 19 #[.pointer (some ⟨p, 0, none⟩), .string n, .int .i64 now] w fun e w' => e = .returned (.bool false) ∧ w' = w := by
  have PF : Hid _ := fun (_ : Unit) => find_no h hn hh
  clear h
  go_enter Tryz.func19, Tryz.ntmps19
  go_wp2_with fail
  with_reducible refine (PF.out ()).mono ?_
  rintro e w' ⟨rfl, rfl⟩
  go_wp2
  go_ret
  exact ⟨rfl, rfl⟩
theorem locked_yesU (h : StU w p m nn D blk B) {n : ByteArray} (hn : n.size ≤ maxLen) (hh : hasU B n = true) (now : Int) :
    Calls Tryz.prog 19 #[.pointer (some ⟨p, 0, none⟩), .string n, .int .i64 now] w fun e w' => e = .returned (.bool ((atU B n).locked && decide (now ≤ (atU B n).till))) ∧ w' = w := by
  have PF : Hid _ := fun (_ : Unit) => find_yes h hn hh
  have hr := h.row hh
  have PB : Hid _ := fun (_ : Unit) => bool_loadU ⟨blk (idxU B n), 2, none⟩ (atU B n).locked w (hr.cellAt rfl)
  have PT : Hid _ := fun (_ : Unit) => i64_loadU ⟨blk (idxU B n), 3, none⟩ (atU B n).till w (hr.cellAt rfl)
  clear h hr
  generalize blk (idxU B n) = b at *
  generalize (atU B n).till = T at *
  generalize (atU B n).locked = L at *
  cases L with
  | true =>
    go_enter Tryz.func19, Tryz.ntmps19
    go_wp2_with fail
    with_reducible refine (PF.out ()).mono ?_
    rintro e w' ⟨rfl, rfl⟩
    go_wp2_with fail
    with_reducible refine (PB.out ()).mono ?_
    rintro e w' ⟨rfl, rfl⟩
    go_wp2_with fail
    with_reducible refine (PT.out ()).mono ?_
    rintro e w' ⟨rfl, rfl⟩
    go_wp2
    go_ret
    exact ⟨rfl, rfl⟩
  | false =>
    go_enter Tryz.func19, Tryz.ntmps19
    go_wp2_with fail
    with_reducible refine (PF.out ()).mono ?_
    rintro e w' ⟨rfl, rfl⟩
    go_wp2_with fail
    with_reducible refine (PB.out ()).mono ?_
    rintro e w' ⟨rfl, rfl⟩
    go_wp2
    go_ret
    exact ⟨rfl, rfl⟩

theorem fails_noU (h : StU w p m nn D blk B) {n : ByteArray} (hn : n.size ≤ maxLen) (hh : hasU B n = false) :
    Calls Tryz.prog 21 #[.pointer (some ⟨p, 0, none⟩), .string n] w fun e w' => e = .returned (.int .i64 0) ∧ w' = w := by
  have PF : Hid _ := fun (_ : Unit) => find_no h hn hh
  clear h
  go_enter Tryz.func21, Tryz.ntmps21
  go_wp2_with fail
  with_reducible refine (PF.out ()).mono ?_
  rintro e w' ⟨rfl, rfl⟩
  go_wp2
  go_ret
  exact ⟨rfl, rfl⟩
theorem fails_yesU (h : StU w p m nn D blk B) {n : ByteArray} (hn : n.size ≤ maxLen) (hh : hasU B n = true) :
    Calls Tryz.prog 21 #[.pointer (some ⟨p, 0, none⟩), .string n] w fun e w' => e = .returned (.int .i64 ((atU B n).fails : Int)) ∧ w' = w := by
  have PF : Hid _ := fun (_ : Unit) => find_yes h hn hh
  have hr := h.row hh
  have PT : Hid _ := fun (_ : Unit) => i64_loadU ⟨blk (idxU B n), 1, none⟩ ((atU B n).fails : Int) w (hr.cellAt rfl)
  clear h hr
  generalize blk (idxU B n) = b at *
  generalize ((atU B n).fails : Int) = T at *
  go_enter Tryz.func21, Tryz.ntmps21
  go_wp2_with fail
  with_reducible refine (PF.out ()).mono ?_
  rintro e w' ⟨rfl, rfl⟩
  go_wp2_with fail
  with_reducible refine (PT.out ()).mono ?_
  rintro e w' ⟨rfl, rfl⟩
  go_wp2
  go_ret
  exact ⟨rfl, rfl⟩

theorem secret_noU (h : StU w p m nn D blk B) {n : ByteArray} (hn : n.size ≤ maxLen) (hh : hasU B n = false) :
    Calls Tryz.prog 13 #[.pointer (some ⟨p, 0, none⟩), .string n] w fun e w' => e = .returned (.tuple #[.string ⟨#[]⟩, .bool false]) ∧ w' = w := by
  have PF : Hid _ := fun (_ : Unit) => find_no h hn hh
  clear h
  go_enter Tryz.func13, Tryz.ntmps13
  go_wp2_with fail
  with_reducible refine (PF.out ()).mono ?_
  rintro e w' ⟨rfl, rfl⟩
  go_wp2
  go_ret2
  exact ⟨rfl, rfl⟩
theorem secret_yesU (h : StU w p m nn D blk B) {n : ByteArray} (hn : n.size ≤ maxLen) (hh : hasU B n = true) :
    Calls Tryz.prog 13 #[.pointer (some ⟨p, 0, none⟩), .string n] w fun e w' => e = .returned (.tuple #[.string (atU B n).secret, .bool true]) ∧ Below w.heap.size w w' := by
  have PF : Hid _ := fun (_ : Unit) => find_yes h hn hh
  have hr := h.row hh
  have hc := hr.cellAt (j := 0) rfl
  have hz : (atU B n).secret.size ≤ 1000000 := by
    have h1 := (h.ok.each _ (List.mem_of_getElem? (atU_get hh))).1
    unfold userOkU at h1
    rw [Bool.and_eq_true, decide_eq_true_eq] at h1
    omega
  have PC : Hid _ := fun w1 => strings_cloneU (atU B n).secret w1 hz
  clear h hr hz
  generalize blk (idxU B n) = b at *
  generalize (atU B n).secret = S at *
  go_enter Tryz.func13, Tryz.ntmps13
  go_wp2_with fail
  with_reducible refine (PF.out ()).mono ?_
  rintro e w' ⟨rfl, rfl⟩
  go_wp2_with fail
  with_reducible refine (PC.out _).mono ?_
  rintro e w1 ⟨rfl, b1⟩
  go_wp2
  go_ret2
  exact ⟨rfl, b1⟩
end

theorem secretNil_U (w : World) (n : ByteArray) : Calls Tryz.prog 13 #[.pointer none, .string n] w fun e w' => (∃ s, e = .returned (.tuple #[.string s, .bool false])) ∧ Below w.heap.size w w' := by
  have PF : Hid _ := fun w1 => find_nil w1 n
  go_enter Tryz.func13, Tryz.ntmps13
  go_wp2_with fail
  with_reducible refine (PF.out _).mono ?_
  rintro e w' ⟨rfl, rfl⟩
  go_wp2
  go_ret2
  exact ⟨⟨_, rfl⟩, Below.refl _ _⟩
theorem failNil_U (w : World) (n : ByteArray) (now : Int) : Calls Tryz.prog 15 #[.pointer none, .string n, .int .i64 now] w fun e w' => e = .returned (.bool false) ∧ Below w.heap.size w w' := by
  have PF : Hid _ := fun w1 => find_nil w1 n
  go_enter Tryz.func15, Tryz.ntmps15
  go_wp2_with fail
  with_reducible refine (PF.out _).mono ?_
  rintro e w' ⟨rfl, rfl⟩
  go_wp2
  go_ret
  exact ⟨rfl, Below.refl _ _⟩
theorem goodNil_U (w : World) (n : ByteArray) : Calls Tryz.prog 17 #[.pointer none, .string n] w fun e w' => e = .returned (.tuple #[]) ∧ Below w.heap.size w w' := by
  have PF : Hid _ := fun w1 => find_nil w1 n
  go_enter Tryz.func17, Tryz.ntmps17
  go_wp2_with fail
  with_reducible refine (PF.out _).mono ?_
  rintro e w' ⟨rfl, rfl⟩
  go_wp2
  go_end0
  exact ⟨rfl, Below.refl _ _⟩
theorem lockedNil_U (w : World) (n : ByteArray) (now : Int) : Calls Tryz.prog 19 #[.pointer none, .string n, .int .i64 now] w fun e w' => e = .returned (.bool false) ∧ Below w.heap.size w w' := by
  have PF : Hid _ := fun w1 => find_nil w1 n
  go_enter Tryz.func19, Tryz.ntmps19
  go_wp2_with fail
  with_reducible refine (PF.out _).mono ?_
  rintro e w' ⟨rfl, rfl⟩
  go_wp2
  go_ret
  exact ⟨rfl, Below.refl _ _⟩
theorem failsNil_U (w : World) (n : ByteArray) : Calls Tryz.prog 21 #[.pointer none, .string n] w fun e w' => e = .returned (.int .i64 0) ∧ Below w.heap.size w w' := by
  have PF : Hid _ := fun w1 => find_nil w1 n
  go_enter Tryz.func21, Tryz.ntmps21
  go_wp2_with fail
  with_reducible refine (PF.out _).mono ?_
  rintro e w' ⟨rfl, rfl⟩
  go_wp2
  go_ret
  exact ⟨rfl, Below.refl _ _⟩
theorem namesNil_U (w : World) : Calls Tryz.prog 12 #[.pointer none] w fun e w' => (∃ a c, e = .returned (.slice a 0 c)) ∧ Below w.heap.size w w' := by
  go_enter Tryz.func12, Tryz.ntmps12
  go_wp2
  go_ret
  exact ⟨⟨_, _, rfl⟩, Below.refl _ _⟩

end Go.Proofs.YtjemklgfenciaaaGreat

/-
  Package users: a user is put into the map: New's region that draws its order.
-/
namespace Go.Proofs.YtjemklgfenciaaaGreat
open Go.RowKit
set_option linter.unusedVariables false
set_option maxRecDepth 100000
set_option linter.unusedSimpArgs false

theorem run_moveK {P : Program} {a : Act} {o : Oper} {x : Operand} {v : Value} (ho : o.op = .move x) (hx : a.eval x = v) (w : World) : (execOp a.eval o).run P w = .ok (.value v) w := by
  subst hx
  unfold execOp
  simp [ho]
theorem run_buildK {P : Program} {a : Act} {o : Oper} {t : TypeId} {parts : Array (Nat × Operand)} {cells : Array Value} (ho : o.op = .build t parts) (w : World) (h : P.built t (parts.map fun (i, x) => (i, a.eval x)).toList = some cells) : (execOp a.eval o).run P w = .ok (.value (.agg cells)) w := by
  unfold execOp
  simp only [ho, Sem.run_bind, run_build w t _ cells h, Result.andThen_ok]
  rfl
theorem run_boxK {P : Program} {a : Act} {o : Oper} {t : TypeId} {x : Operand} {z : Array Value} (ho : o.op = .box t x) (hx : a.eval x = .agg z) (w : World) : (execOp a.eval o).run P w = .ok (.value (.pointer (some ⟨w.heap.size, 0, none⟩))) (w.alloc (.cells z t)) := by
  unfold execOp
  simp only [ho, hx, Value.cells, Sem.run_bind, Instr.box, newVar, newRow, run_newObj_alloc, Sem.run_pure, Result.andThen_ok]
theorem run_updateK {P : Program} {a : Act} {o : Oper} {t : TypeId} {m x v : Operand} {mv xv vv : Value} {w w' : World} (ho : o.op = .mapUpdate t m x v) (hm : a.eval m = mv) (hx : a.eval x = xv) (hv : a.eval v = vv) (h : (Instr.mapUpdate t mv xv vv).run P w = .ok () w') :
    (execOp a.eval o).run P w = .ok .skip w' := by
  unfold execOp
  simp only [ho, hm, hx, hv, Sem.run_bind, h]
  rfl
theorem builtAcc (S : ByteArray) : Tryz.prog.built 76 [(0, .string S)] = some #[.string S, .int .i64 0, .int .u32 0, .int .i64 0] := by kernel_rfl
def newL : List (Option Tmp × Op) :=
  [(some 32, .move (.tmp 4)), (some 33, .nilCheck (.tmp 32)), (some 34, .fieldAddr 64 (.tmp 33) 0), (some 35, .load 62 (.tmp 34)),
   (some 36, .fieldAddr 32 (.tmp 6) 0), (some 37, .load 9 (.tmp 36)), (some 38, .call { callee := .value (.func 24), args := #[.tmp 37], argTypes := #[9] }),
   (some 39, .fieldAddr 32 (.tmp 6) 1), (some 40, .load 9 (.tmp 39)), (some 41, .call { callee := .value (.func 24), args := #[.tmp 40], argTypes := #[9] }),
   (some 42, .build 76 #[(0, .tmp 41)]), (some 43, .box 76 (.tmp 42)), (none, .mapUpdate 62 (.tmp 35) (.tmp 38) (.tmp 43))]
def newW : List (List Nat) := [[], [0], [1], [2], [], [4], [5], [], [7], [6, 8], [9], [10], [0, 1, 2, 3, 4, 5, 6, 7, 8, 9, 10, 11]]

set_option maxHeartbeats 2000000 in
theorem new_region {id : Nat} {ops : Array Oper} {Q : Exit → Act → World → Prop} {a0 : Act} {w : World} {p m g nn : Nat} {D : DataW Unit} {A S : ByteArray} (hok : regOk ops 46 = true) (hk : kinds ops = newL) (hL : waitsL ops = newW) (hsz : a0.tmps.size = 46)
    (h4 : a0.eval (.tmp 4) = .pointer (some ⟨p, 0, none⟩)) (h6 : a0.eval (.tmp 6) = .pointer (some ⟨g, 0, none⟩))
    (hp : RowIs w p 64 [.map (some m)]) (hg : RowIs w g 32 [.string A, .string S]) (hmp : w.ownsMap Tryz.prog 9 RefB0 m nn D) (hnn : nn < 20) (hA : A.size ≤ 1000000) (hS : S.size ≤ 1000000)
    (hend : ∀ v1 v2 v3 v4 v5 v6 v7 v8 v9 v10 v11 v12 w1 w2 q, Below w.heap.size w w1 → w.heap.size ≤ q → RowIs w1 q 76 (accRow ⟨A, S, 0, false, 0⟩) → w2.ownsMap Tryz.prog 9 RefB0 m (nn + 1) (D.put (keyB A) (.lit (.int .i64 (q : Int)))) → w1.grownBy w2 (some m) →
      Q .normal ((((((((((((a0.put (some 32) v1).put (some 33) v2).put (some 34) v3).put (some 35) v4).put (some 36) v5).put (some 37) v6).put (some 38) v7).put (some 39) v8).put (some 40) v9).put (some 41) v10).put (some 42) v11).put (some 43) v12) w2) :
    (Code.region id ops true).wp Tryz.prog Q a0 w := by
  obtain ⟨R, hRd⟩ : ∃ R : World → Prop, R = fun w5 => Below w.heap.size w w5 := ⟨_, rfl⟩
  obtain ⟨F, hF⟩ : ∃ F : List (Value → World → Prop), F = [fun v _ => v = .pointer (some ⟨p, 0, none⟩), fun v _ => v = .pointer (some ⟨p, 0, none⟩), fun v _ => v = .pointer (some ⟨p, 0, none⟩), fun v _ => v = .map (some m),
    fun v _ => v = .pointer (some ⟨g, 0, none⟩), fun v _ => v = .string A, fun v _ => v = .string A, fun v _ => v = .pointer (some ⟨g, 1, none⟩), fun v _ => v = .string S, fun v _ => v = .string S,
    fun v _ => v = .agg (accRow ⟨A, S, 0, false, 0⟩).toArray, fun v w5 => ∃ q, v = .pointer (some ⟨q, 0, none⟩) ∧ w.heap.size ≤ q ∧ RowIs w5 q 76 (accRow ⟨A, S, 0, false, 0⟩), fun _ _ => True] := ⟨_, rfl⟩
  have st0 : StepP Tryz.prog Q newL newW F R a0 0 := by
    subst hF hRd
    intro o hd ho a w5 hR hout hJ
    exact st_v hd (run_moveK ho ((hout 4 (by decide)).trans h4) w5) rfl
  have st1 : StepP Tryz.prog Q newL newW F R a0 1 := by
    subst hF hRd
    intro o hd ho a w5 hR hout hJ
    exact st_v hd (run_nil' ho (show a.eval (.tmp 32) = .pointer (some ⟨p, 0, none⟩) from hJ 0 (by decide)) w5) rfl
  have st2 : StepP Tryz.prog Q newL newW F R a0 2 := by
    subst hF hRd
    intro o hd ho a w5 hR hout hJ
    exact st_v hd (run_field' ho (show a.eval (.tmp 33) = .pointer (some ⟨p, 0, none⟩) from hJ 1 (by decide)) Tryz.underlying64 rfl (n := 0) (by kernel_rfl) w5) rfl
  have st3 : StepP Tryz.prog Q newL newW F R a0 3 := by
    subst hF hRd
    intro o hd ho a w5 hR hout hJ
    exact st_v hd (run_load1' ho (show a.eval (.tmp 34) = .pointer (some ⟨p, 0, none⟩) from hJ 2 (by decide)) Tryz.underlying62 rfl w5 ((RowIs.below hp hR hp.lt).cellAt rfl)) rfl
  have st4 : StepP Tryz.prog Q newL newW F R a0 4 := by
    subst hF hRd
    intro o hd ho a w5 hR hout hJ
    exact st_v hd (run_field' ho ((hout 6 (by decide)).trans h6) Tryz.underlying32 rfl (n := 0) (by kernel_rfl) w5) rfl
  have st5 : StepP Tryz.prog Q newL newW F R a0 5 := by
    subst hF hRd
    intro o hd ho a w5 hR hout hJ
    exact st_v hd (run_loadS' ho (show a.eval (.tmp 36) = .pointer (some ⟨g, 0, none⟩) from hJ 4 (by decide)) Tryz.underlying9 w5 ((RowIs.below hg hR hg.lt).cellAt rfl)) rfl
  have st6 : StepP Tryz.prog Q newL newW F R a0 6 := by
    subst hF hRd
    intro o hd ho a w5 hR hout hJ
    have hx : a.eval (.tmp 37) = .string A := hJ 5 (by decide)
    refine st_c hd ho (vs := #[.string A]) (by simp [hx]) (by kernel_rfl) ((strings_cloneU A w5 hA).mono ?_)
    rintro e w' ⟨rfl, b⟩
    exact ⟨_, rfl, b, rfl⟩
  have st7 : StepP Tryz.prog Q newL newW F R a0 7 := by
    subst hF hRd
    intro o hd ho a w5 hR hout hJ
    exact st_v hd (run_field' ho ((hout 6 (by decide)).trans h6) Tryz.underlying32 rfl (n := 0) (by kernel_rfl) w5) rfl
  have st8 : StepP Tryz.prog Q newL newW F R a0 8 := by
    subst hF hRd
    intro o hd ho a w5 hR hout hJ
    exact st_v hd (run_loadS' ho (show a.eval (.tmp 39) = .pointer (some ⟨g, 1, none⟩) from hJ 7 (by decide)) Tryz.underlying9 w5 ((RowIs.below hg hR hg.lt).cellAt rfl)) rfl
  have st9 : StepP Tryz.prog Q newL newW F R a0 9 := by
    subst hF hRd
    intro o hd ho a w5 hR hout hJ
    have hx : a.eval (.tmp 40) = .string S := hJ 8 (by decide)
    refine st_c hd ho (vs := #[.string S]) (by simp [hx]) (by kernel_rfl) ((strings_cloneU S w5 hS).mono ?_)
    rintro e w' ⟨rfl, b⟩
    exact ⟨_, rfl, b, rfl⟩
  have st10 : StepP Tryz.prog Q newL newW F R a0 10 := by
    subst hF hRd
    intro o hd ho a w5 hR hout hJ
    have hx : a.eval (.tmp 41) = .string S := hJ 9 (by decide)
    refine st_v hd (run_buildK ho w5 (cells := (accRow ⟨A, S, 0, false, 0⟩).toArray) ?_) rfl
    simp only [List.map_toArray, List.map_cons, List.map_nil]
    rw [hx]
    exact builtAcc S
  have st11 : StepP Tryz.prog Q newL newW F R a0 11 := by
    subst hF hRd
    intro o hd ho a w5 hR hout hJ
    have hx : a.eval (.tmp 42) = .agg (accRow ⟨A, S, 0, false, 0⟩).toArray := hJ 10 (by decide)
    exact st_m hd (run_boxK ho hx w5) ((Below.refl _ _).alloc (Nat.le_refl _) _) ⟨w5.heap.size, rfl, hR.size, RowIs.new w5 _ _⟩
  refine wp_region_Q newL newW F R (by kernel_rfl) hok hk hL (n := 13) (q := 12) rfl hsz (by decide) ?_ ?_ ?_ ?_ ?_ ?_
  · intro L _ hq j hj hne
    exact hq j (by
      show j ∈ [0, 1, 2, 3, 4, 5, 6, 7, 8, 9, 10, 11]
      simp
      omega)
  · subst hRd; exact (Below.refl _ _).drew
  · subst hRd; intro u u2 hu hb; exact hu.trans (hb.mono hu.size)
  · subst hF; exact ⟨fun _ _ _ _ h => h, fun _ _ _ _ h => h, fun _ _ _ _ h => h, fun _ _ _ _ h => h, fun _ _ _ _ h => h, fun _ _ _ _ h => h, fun _ _ _ _ h => h, fun _ _ _ _ h => h, fun _ _ _ _ h => h, fun _ _ _ _ h => h, fun _ _ _ _ h => h, fun _ _ _ hb ⟨q, e, h1, h2⟩ => ⟨q, e, h1, RowIs.below h2 hb h2.lt⟩, fun _ _ _ _ h => h, True.intro⟩
  · intro i hi hm
    match i, hi, hm with
    | 0, _, _ => exact st0
    | 1, _, _ => exact st1
    | 2, _, _ => exact st2
    | 3, _, _ => exact st3
    | 4, _, _ => exact st4
    | 5, _, _ => exact st5
    | 6, _, _ => exact st6
    | 7, _, _ => exact st7
    | 8, _, _ => exact st8
    | 9, _, _ => exact st9
    | 10, _, _ => exact st10
    | 11, _, _ => exact st11
    | 12, _, h => exact absurd rfl h
    | k + 13, h, _ => exact absurd h (by omega)
  · subst hF hRd
    intro o hd ho a w5 hR hs hdf hout hJ
    have x1 : a.eval (.tmp 35) = .map (some m) := hJ 3 (by decide) (by decide)
    have x2 : a.eval (.tmp 38) = .string A := hJ 6 (by decide) (by decide)
    obtain ⟨q, x3, hq, hr⟩ := hJ 11 (by decide) (by decide)
    have x3' : a.eval (.tmp 43) = .pointer (some ⟨q, 0, none⟩) := x3
    have hown : w5.ownsMap Tryz.prog 9 RefB0 m nn D := by
      have hl := hmp.lt
      obtain ⟨es, clock, hbl, r⟩ := hmp
      exact ⟨es, clock, (hR.block m hl).trans hbl, r⟩
    obtain ⟨w2, hrun, h1, h2⟩ := hown.update lawU Tryz.underlying62 (by unfold maxLen; omega) (keyB_of (n := A) (by unfold maxLen; omega)) (refB_mk q)
    have hEqA := act_puts a a0 [32, 33, 34, 35, 36, 37, 38, 39, 40, 41, 42, 43] (by rw [hs, hsz]) hdf (by rw [hs]; decide) (fun t ht => hout t (fun h => ht (by simpa [newL] using h)))
    simp only [List.foldl] at hEqA
    have hd' : o.dst = none := hd
    unfold Oper.wp
    rw [run_updateK (P := Tryz.prog) ho x1 x2 x3' hrun]
    show Q .normal (a.put o.dst undef) w2
    rw [hd']
    show Q .normal a w2
    rw [hEqA]
    exact hend _ _ _ _ _ _ _ _ _ _ _ _ w5 w2 q hR hq hr h1 h2

end Go.Proofs.YtjemklgfenciaaaGreat

/-
  Package users: New.
-/
namespace Go.Proofs.YtjemklgfenciaaaGreat
open Go.RowKit
set_option linter.unusedVariables false
set_option maxRecDepth 100000
set_option linter.unusedSimpArgs false

/-- The first k users are in. -/
structure NewAt (w wr : World) (p m : Nat) (X : Nat → (ByteArray × ByteArray)) (k : Nat) : Prop where
  ok : usersOk (listU X k) = true
  st : ∃ nn D blk, nn ≤ k ∧ StU wr p m nn D blk (freshU (listU X k)) ∧ ∀ j, blocksU p m blk (freshU (listU X k)) j → w.heap.size ≤ j
  bel : Below w.heap.size w wr
theorem NewAt.start (w : World) (X : Nat → (ByteArray × ByteArray)) : NewAt w ((w.alloc (.map #[] 0)).alloc (.cells #[.map (some w.heap.size)] 64)) (w.heap.size + 1) w.heap.size X 0 := by
  refine ⟨rfl, ⟨0, .map [], fun _ => 0, Nat.le_refl _, ⟨?_, ?_, by decide, fun n _ => rfl, fun n hn => (by cases hn), fun i u hi => (by cases hi), (by omega), fun i hi => absurd hi (Nat.not_lt_zero _), fun i j hi => absurd hi (Nat.not_lt_zero _), usersOk_fresh (L := []) rfl⟩, fun j hj => ?_⟩, ((Below.refl _ w).alloc (Nat.le_refl _) _).alloc (by simp) _⟩
  · have := RowIs.new (w.alloc (.map #[] 0)) 64 [.map (some w.heap.size)]
    simpa using this
  · exact World.ownsMap.alloc (World.ownsMap_made w Tryz.prog 9 RefB0) _
  · rcases hj with rfl | rfl | ⟨i, hi, _⟩
    · omega
    · exact Nat.le_refl _
    · exact absurd hi (Nat.not_lt_zero _)

set_option maxHeartbeats 4000000 in
theorem new_U (w : World) (oa : Option Addr) (n c : Nat) (X : Nat → (ByteArray × ByteArray)) (hx : PairsAt w oa n X) (hn : n ≤ maxLen) (hz : ∀ i, i < n → (X i).1.size ≤ maxLen ∧ (X i).2.size ≤ maxLen) :
    Calls Tryz.prog 6 #[.slice oa n c] w fun e w' => ((usersOk (listU X n) = true ∧ ∃ p m, e = .returned (.tuple #[.pointer (some ⟨p, 0, none⟩), .int .i64 0]) ∧ NewAt w w' p m X n) ∨ (usersOk (listU X n) = false ∧ e = .returned (.tuple #[.pointer none, .int .i64 1]) ∧ Below w.heap.size w w')) := by
  by_cases h20 : 20 < n
  · have hbad : usersOk (listU X n) = false := by
      unfold usersOk
      rw [listU_lenK, decide_eq_false (by omega)]
      rfl
    have d1 : decide (20 < (n : Int)) = true := decide_eq_true (by omega)
    unfold maxLen at hn
    go_enter Tryz.func6, Tryz.ntmps6
    go_wp2
    go_ret2
    exact Or.inr ⟨hbad, rfl, Below.refl _ _⟩
  · have d1 : decide (20 < (n : Int)) = false := decide_eq_false (by omega)
    have hmm := @run_makeMap Tryz.prog
    have HX : Hid (PairsAt w oa n X) := hx
    have HZ : Hid _ := hz
    have HS : Hid _ := NewAt.start w X
    clear hx hz hn
    go_enter Tryz.func6, Tryz.ntmps6
    go_wp2_with fail
    clear hmm
    generalize hp : w.heap.size + 1 = p at *
    generalize hm : w.heap.size = m at *
    go_loopw [15] (fun i wr => ∃ k : Nat, k ≤ n ∧ i = .int .i64 k ∧ Hid (NewAt w wr p m X k)) (fun i _ => n - (intOf i).toNat)
    case atStart => exact ⟨0, Nat.zero_le _, rfl, HS⟩
    case round =>
      clear HS
      obtain ⟨k, hk, rfl, hA⟩ := hrel
      by_cases hlt : k < n
      · have dlt : decide ((k : Int) < (n : Int)) = true := decide_eq_true (by omega)
        have i0 : (0 : Int) ≤ (k : Int) := by omega
        have i1 : (k : Int) < (n : Int) := by omega
        obtain ⟨bb, oo, rfl, c1, c2⟩ := (HX.out.later hA.out.bel) k hlt
        obtain ⟨z1, z2⟩ := HZ.out k hlt
        have HXK : Hid (listU X (k + 1) = listU X k ++ [((X k).1, (X k).2)]) := listU_succ X k
        have PR : Hid _ := fun w1 => right_U w1 (X k).1 (X k).2 z1 z2
        have HQ : Hid _ := usersOk_snoc (x := ((X k).1, (X k).2)) hA.out.ok (by rw [listU_lenK]; omega)
        have hsn : usersOk (listU X (k + 1)) = (userOkU (X k).1 (X k).2 && !hasU (freshU (listU X k)) (X k).1) := by rw [HXK.out]; exact HQ.out
        have HB : Hid (usersOk (listU X (k + 1)) = false → usersOk (listU X n) = false) := fun hb => by
          obtain ⟨C, hC⟩ := listU_take X (show k + 1 ≤ n by omega)
          cases hu : usersOk (listU X n) with
          | false => rfl
          | true =>
            rw [hC] at hu
            rw [usersOk_prefix hu] at hb
            cases hb
        clear HQ
        generalize (X k).1 = A at *
        generalize (X k).2 = S at *
        generalize hoo : oo + k * 2 = o1 at *
        have hz1 : A.size ≤ maxLen := z1
        have hA1 := hA.out.st
        have hb0 := hA.out.bel
        have hok0 := hA.out.ok
        obtain ⟨nn, D, blk, hnn, hst, hblk⟩ := hA1
        have hst1 := hst.below ((Below.refl _ wr).alloc (Nat.le_refl _) (.cells #[.string A, .string S] 32))
        have rg := RowIs.new wr 32 [.string A, .string S]
        have hb1 : Below w.heap.size w (wr.alloc (.cells #[.string A, .string S] 32)) := hb0.alloc hb0.size _
        have hbk : ∀ j, blocksU p m blk (freshU (listU X k)) j → w.heap.size ≤ j := hblk
        have HOK0 : Hid _ := hok0
        have HSN : Hid _ := hsn
        clear z1 z2 hst hblk hb0 hok0 hsn hA
        go_wp2_with fail
        generalize hW1 : wr.alloc (.cells #[.string A, .string S] 32) = W1 at *
        clear hW1
        generalize wr.heap.size = g at *
        have bw : Below W1.heap.size W1 W1.drew := (Below.refl _ _).drew
        have HBel : Hid _ := hb1
        have HSt : Hid _ := hst1
        have HRg : Hid (RowIs W1 g 32 [.string A, .string S]) := rg
        have HBk : Hid _ := hbk
        clear hb1 hst1 rg hbk
        cases hq : userOkU A S with
        | false =>
          rw [hq] at PR
          have HF : Hid (usersOk (listU X n) = false) := HB.out (by rw [HSN.out, hq]; rfl)
          have g1 : W1.cell? ⟨g, 0, none⟩ = some (.string A) := HRg.out.cellAt rfl
          have g2 : W1.cell? ⟨g, 1, none⟩ = some (.string S) := HRg.out.cellAt rfl
          clear hq c1 c2
          first
            | go_region_with (first | (go_at_call 7; with_reducible refine (PR.out _).mono ?_; rintro e w5 ⟨rfl, b5⟩; replace bw := bel_chain8 bw b5; clear b5))
            | fail
          all_goals
            have hbn : Below w.heap.size w _ := HBel.out.trans (bw.mono HBel.out.size)
            go_wp2
            go_ret2
            exact Or.inr ⟨HF.out, rfl, hbn⟩
        | true =>
          rw [hq] at PR
          cases hh : hasU (freshU (listU X k)) A with
          | true =>
            have HF : Hid (usersOk (listU X n) = false) := HB.out (by rw [HSN.out, hq, hh]; rfl)
            have HL : Hid (∀ w', Below W1.heap.size W1 w' → w'.cell? ⟨g, 0, none⟩ = some (.string A) ∧ w'.cell? ⟨g, 1, none⟩ = some (.string S) ∧ w'.cell? ⟨p, 0, none⟩ = some (.map (some m)) ∧ (Instr.lookup 62 (.map (some m)) (.string A) false).run Tryz.prog w' = .ok (.pointer (some ⟨blk (idxU (freshU (listU X k)) A), 0, none⟩)) w') := fun w' hb =>
              ⟨(RowIs.below HRg.out hb HRg.out.lt).cellAt rfl, (RowIs.below HRg.out hb HRg.out.lt).cellAt rfl, (HSt.out.below hb).hd.cellAt rfl, look_yes (HSt.out.below hb).mp hz1 (HSt.out.yes A hh)⟩
            generalize blk (idxU (freshU (listU X k)) A) = bq at *
            clear hq hh c1 c2
            go_region_held3 (fun w' => w'.cell? ⟨g, 0, none⟩ = some (.string A) ∧ w'.cell? ⟨g, 1, none⟩ = some (.string S) ∧ w'.cell? ⟨p, 0, none⟩ = some (.map (some m)) ∧ (Instr.lookup 62 (.map (some m)) (.string A) false).run Tryz.prog w' = .ok (.pointer (some ⟨bq, 0, none⟩)) w') (exact HL.out _ bw) (first | (go_at_call 7; (with_reducible refine (PR.out _).mono ?_); rintro e w5 ⟨rfl, b5⟩; replace bw := bel_chain8 bw b5; clear b5))
            all_goals
              have hbn : Below w.heap.size w _ := HBel.out.trans (bw.mono HBel.out.size)
              go_wp2
              go_ret2
              exact Or.inr ⟨HF.out, rfl, hbn⟩
          | false =>
            have hok1 : Hid (usersOk (listU X (k + 1)) = true) := by
              show usersOk (listU X (k + 1)) = true
              rw [HSN.out, hq, hh]; rfl
            have HL : Hid (∀ w', Below W1.heap.size W1 w' → w'.cell? ⟨g, 0, none⟩ = some (.string A) ∧ w'.cell? ⟨g, 1, none⟩ = some (.string S) ∧ w'.cell? ⟨p, 0, none⟩ = some (.map (some m)) ∧ (Instr.lookup 62 (.map (some m)) (.string A) false).run Tryz.prog w' = .ok (.pointer none) w') := fun w' hb =>
              ⟨(RowIs.below HRg.out hb HRg.out.lt).cellAt rfl, (RowIs.below HRg.out hb HRg.out.lt).cellAt rfl, (HSt.out.below hb).hd.cellAt rfl, look_no (HSt.out.below hb).mp hz1 (HSt.out.no A hh)⟩
            have hsz : A.size ≤ 1000000 ∧ S.size ≤ 1000000 := by
              unfold userOkU nameOkU at hq
              simp at hq
              omega
            have HH : Hid _ := hh
            clear hq hh c1 c2
            go_region_held3 (fun w' => w'.cell? ⟨g, 0, none⟩ = some (.string A) ∧ w'.cell? ⟨g, 1, none⟩ = some (.string S) ∧ w'.cell? ⟨p, 0, none⟩ = some (.map (some m)) ∧ (Instr.lookup 62 (.map (some m)) (.string A) false).run Tryz.prog w' = .ok (.pointer none) w') (exact HL.out _ bw) (first | (go_at_call 7; (with_reducible refine (PR.out _).mono ?_); rintro e w5 ⟨rfl, b5⟩; replace bw := bel_chain8 bw b5; clear b5))
            have hst5 := HSt.out.below bw
            have rg5 := RowIs.below HRg.out bw HRg.out.lt
            have HB5 : Hid (Below w.heap.size w w5) := HBel.out.trans (bw.mono HBel.out.size)
            have HSt5 : Hid _ := hst5
            have HRg5 : Hid _ := rg5
            clear hst5 rg5 HL bw
            go_wp2_with fail
            refine new_region (by kernel_rfl) (by kernel_rfl) (by kernel_rfl) rfl rfl rfl HSt5.out.hd HRg5.out HSt5.out.mp (by omega) hsz.1 hsz.2 ?_
            intro v1 v2 v3 v4 v5 v6 v7 v8 v9 v10 v11 v12 w6 w7 q hb6 hq6 hr6 hm6 hg6
            have hname : hasU (freshU (listU X k)) (⟨A, S, 0, false, 0⟩ : Usr).name = false := HH.out
            have hfr : freshU (listU X (k + 1)) = freshU (listU X k) ++ [⟨A, S, 0, false, 0⟩] := by rw [HXK.out]; exact freshU_snoc _ _
            have hst7 := HSt5.out.snoc (u := ⟨A, S, 0, false, 0⟩) (by omega) hname (by rw [← hfr]; exact usersOk_fresh hok1.out) hq6 hb6 hr6 hm6 hg6
            have hNew : Hid (NewAt w w7 p m X (k + 1)) := by
              refine ⟨hok1.out, ⟨nn + 1, _, _, by omega, by rw [hfr]; exact hst7, fun j hj => ?_⟩, ?_⟩
              · rcases hj with hj | hj | ⟨i, hi, hj⟩
                · exact HBk.out j (Or.inl hj)
                · exact HBk.out j (Or.inr (Or.inl hj))
                · rw [hfr, List.length_append, List.length_singleton] at hi
                  replace hj : j = (if i < (freshU (listU X k)).length then blk i else q) := hj
                  by_cases e : i < (freshU (listU X k)).length
                  · rw [if_pos e] at hj
                    exact HBk.out j (Or.inr (Or.inr ⟨i, e, hj⟩))
                  · rw [if_neg e] at hj
                    have := HB5.out.size
                    omega
              · exact (HB5.out.trans (hb6.mono HB5.out.size)).grown hg6 (Nat.le_trans HB5.out.size hb6.size) (fun j hj => by
                  obtain rfl := Option.some.inj hj
                  exact HBk.out _ (Or.inr (Or.inl rfl)))
            clear hst7 hfr hname hb6 hr6 hm6 hg6 hq6 HBel HSt HRg HBk HH hok1 HSt5 HRg5 HB5
            simp only [Act.put, List.setIfInBounds_toArray, List.set]
            rename_i K hK hS5
            refine hK _ _ ?_
            go_wp2
            go_roundw
            case rel => exact ⟨k + 1, by omega, by go_num, hNew⟩
            case measure => simp [intOf]; omega
      · have dlt : decide ((k : Int) < (n : Int)) = false := decide_eq_false (by omega)
        obtain rfl : k = n := by omega
        go_wp2
        go_ret2
        exact Or.inl ⟨hA.out.ok, p, m, rfl, hA.out⟩

end Go.Proofs.YtjemklgfenciaaaGreat
