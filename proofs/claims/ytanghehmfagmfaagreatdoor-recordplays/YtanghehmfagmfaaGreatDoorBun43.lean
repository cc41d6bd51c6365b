/-
  Parts of this proof, one behind the other: Rec18.
-/
import Derived.Test.YtanghehmfagmfaaGreatDoorBun42
import Derived.Test.YtanghehmfagmfaaGreatDoorBun40
import Derived.Test.YtanghehmfagmfaaGreatDoorBun3
import Derived.Test.YtanghehmfagmfaaGreatDoorBun41
import Derived.Deep.RegionWith
import Derived.Deep.RegionHeld3

/-
  Laws of chapter 13 over what package record tells: RecordCross.
-/
namespace Go.Proofs.YtanghehmfagmfaaGreatDoor
open Go.RowKit
set_option linter.unusedVariables false
set_option maxRecDepth 100000
set_option linter.unusedSimpArgs false

theorem tell_len : ∀ (f n : Nat) (W : Wait), (tellW f n W).1.length + (tellW f n W).2.2.length = W.length
  | 0, n, W => by simp [tellW]
  | f + 1, n, W => by
    cases hh : hasW W n with
    | false => rw [tell_no hh]; simp
    | true =>
      rw [tell_yes hh]
      have h1 := tell_len f (n + 1) (W.eraseIdx (atW W n))
      have h2 := erase_len13 W (atW W n) (atW_lt hh)
      have h3 := has_pos hh
      show (_ :: (tellW f (n + 1) (W.eraseIdx (atW W n))).1).length + (tellW f (n + 1) (W.eraseIdx (atW W n))).2.2.length = W.length
      rw [List.length_cons]
      omega
theorem step_len (s : InS) (b : ByteArray) : (stepR s b).W.length ≤ s.W.length + 1 := by
  by_cases he : errR s b = 0
  · rw [(step_yes he).2]
    have := tell_len (s.W.length + 1) s.next (s.W ++ [(seqN b, textR s.key b)])
    rw [List.length_append, List.length_singleton] at this
    show (moreR s b).2.2.length ≤ _
    unfold moreR
    omega
  · rw [(step_no he).2]; omega
theorem out_len (s : InS) (b : ByteArray) : (outR s b).length ≤ s.W.length + 1 := by
  by_cases he : errR s b = 0
  · rw [(step_yes he).1]
    have := tell_len (s.W.length + 1) s.next (s.W ++ [(seqN b, textR s.key b)])
    rw [List.length_append, List.length_singleton] at this
    unfold moreR
    omega
  · rw [(step_no he).1]; exact Nat.zero_le _
theorem beq_no13 {a b : ByteArray} (h : a ≠ b) : (a.toList == b.toList) = false := by rw [str_beq]; exact decide_eq_false h
/-- Two operations that are passed over where the keys are unlike, under other names: the region's walk then leaves them where they stand. -/
def opMv13 : Op := Op.move (.tmp 15)
theorem opMv13_is : Op.move (.tmp 15) = opMv13 := rfl
theorem opMv13_back : opMv13 = Op.move (.tmp 15) := rfl
def opNe13 : Op := Op.binOp .neq 46 (.tmp 107) (.const (.int .i64 0)) 46
theorem opNe13_is : Op.binOp .neq 46 (.tmp 107) (.const (.int .i64 0)) 46 = opNe13 := rfl
set_option maxRecDepth 100000 in
set_option maxHeartbeats 4000000 in
theorem recordCross_of (K : RecordKeeps) (key other : ByteArray) (oa : Option Addr) (n c : Nat) (L : Nat → List UInt8) (w : World) (hkey : key.size ≤ 9223372036854775807) (hother : other.size ≤ 9223372036854775807) (hn : n ≤ maxLen) (hs : StrsAt w oa n L) :
    Calls Tryz.prog 10 #[.string key, .string other, .slice oa n c] w fun e w' => e = .returned (.bool true) ∧ Below w.heap.size w w' := by
  have PA : Hid _ := alive13_of K
  by_cases c0 : 20 < (n : Int)
  · have d0 : decide (20 < (n : Int)) = true := decide_eq_true c0
    go_enter Tryz.func10, Tryz.ntmps10
    go_wp2_with fail
    with_reducible refine (PA.out _).mono ?_
    rintro e w1 ⟨rfl, b⟩
    go_wp2
    go_ret
    exact ⟨rfl, b⟩
  have d0 : decide (20 < (n : Int)) = false := decide_eq_false c0
  have F1 : Hid _ := fun w => law5_fill32 key w hkey
  have F2 : Hid _ := fun w => law5_fill32 other w hother
  have hk1 : (fillS key 32).size = 32 := fillS_size _ _
  have hk2 : (fillS other 32).size = 32 := fillS_size _ _
  generalize fillS key 32 = KK at *
  generalize fillS other 32 = OO at *
  have P1 : Hid _ := fun w1 l (h : Here w l w1) => Here.newOut K h KK hk1
  have P2 : Hid _ := fun w1 l (h : Here w l w1) => Here.newIn K h OO hk2
  have S0 : Hid (StrsAt w oa n L) := hs
  clear hs
  go_enter Tryz.func10, Tryz.ntmps10
  go_wp2_with fail
  with_reducible refine (PA.out _).mono ?_
  rintro e w1 ⟨rfl, b1⟩
  clear PA
  go_wp2_with fail
  with_reducible refine (F1.out _).mono ?_
  rintro e w' ⟨rfl, rfl⟩
  go_wp2_with fail
  with_reducible refine (F2.out _).mono ?_
  rintro e w' ⟨rfl, rfl⟩
  go_wp2_with fail
  with_reducible refine (P1.out _ _ (Here.start' b1)).mono ?_
  rintro e w2 ⟨p, rfl, h2⟩
  clear P1 F1 F2 b1
  go_wp2_with fail
  with_reducible refine (P2.out _ _ h2).mono ?_
  rintro e w3 ⟨q, rfl, h3⟩
  clear P2 h2
  have H4 : Hid (Here w [RefVTh w3.heap.size ⟨OO, 0, []⟩ (.slice none 0 0) (.slice none 0 0), InTh K q ⟨OO, 0, []⟩, OutTh K p KK 0] (w3.alloc (.cells #[.string OO, .int .i64 0, .slice none 0 0, .slice none 0 0] 33))) := h3.newRefV OO
  clear h3
  go_wp2_with fail
  generalize hr : w3.heap.size = r at *
  generalize w3.alloc (.cells #[.string OO, .int .i64 0, .slice none 0 0, .slice none 0 0] 33) = w4 at *
  go_loopw [45] (fun i wr => ∃ (k : Nat) (s : InS) (vs vt : Value), k ≤ n ∧ i = .int .i64 k ∧ s.key = OO ∧ s.W.length ≤ k ∧ Hid (KK = OO → s = ⟨OO, k, []⟩) ∧ Here w [RefVTh r s vs vt, InTh K q s, OutTh K p KK k] wr) (fun i _ => n - (intOf i).toNat)
  case atStart => exact ⟨0, ⟨OO, 0, []⟩, _, _, Nat.zero_le _, rfl, rfl, Nat.zero_le _, fun _ => rfl, H4.out⟩
  case round =>
    clear H4
    obtain ⟨k, s, vs, vt, hkn, rfl, hsk, hsl, hcase, hh⟩ := hrel
    by_cases hlt : k < n
    · have dlt : decide ((k : Int) < (n : Int)) = true := decide_eq_true (by omega)
      obtain ⟨bb, oo, rfl, _⟩ := S0.out k hlt
      have hcell : wr.cell? ⟨bb, oo + k, none⟩ = some (.string (str (L k))) := by
        obtain ⟨b', o', e, hc'⟩ := (S0.out.later hh.bel) k hlt
        injection e with e; injection e with e1 e2 _; subst e1 e2; exact hc'
      have i0 : (0 : Int) ≤ (k : Int) := by omega
      have i1 : (k : Int) < (n : Int) := by omega
      generalize str (L k) = T at *
      by_cases h3 : 300 < (T.size : Int)
      · have d3 : decide (300 < (T.size : Int)) = true := decide_eq_true h3
        have HB : Hid _ := hh.bel
        clear hh
        go_wp2
        go_ret
        exact ⟨rfl, HB.out⟩
      · have d3 : decide (300 < (T.size : Int)) = false := decide_eq_false h3
        have hT2 : T.size ≤ 2046 := by omega
        have hok := (hh.inOk 1 rfl).1
        have hz := recS_le KK k T hT2
        have hwl : (stepR s (recS KK k T)).W.length ≤ k + 1 := by
          have := step_len s (recS KK k T)
          omega
        have hkey' : (stepR s (recS KK k T)).key = OO := (stepR_key _ _).trans hsk
        have hcase' : Hid (KK = OO → (stepR s (recS KK k T)) = ⟨OO, k + 1, []⟩ ∧ errR s (recS KK k T) = 0) := fun e => by
          have e2 := hcase.out e
          subst e2
          rw [e]
          obtain ⟨q1, q2, q3⟩ := step_at OO T k (by omega) hT2
          exact ⟨q3, q1⟩
        have PS := hh.sealT 2 T rfl hT2 (by omega)
        have PO : Hid _ := fun w1 (h : Here w [RefVTh r s vs vt, InTh K q s, OutTh K p KK (k + 1)] w1) => h.open_ 1 (recS KK k T) rfl (by omega)
        have PR : Hid _ := fun w1 (v : Value) (O : List ByteArray) (s' : InS) (h : Here w [TextsTh w.heap.size v O, RefVTh r s vs vt, InTh K q s', OutTh K p KK (k + 1)] w1) => h.refOpen 1 (recS KK k T) rfl (by omega) (by rw [hsk]; exact hk2) hok.next (by omega)
        generalize recS KK k T = R at *
        have hol : (outR s R).length ≤ 4611686018427387904 := by
          have := out_len s R
          omega
        generalize outR s R = O at *
        generalize errR s R = E at *
        generalize stepR s R = s' at *
        clear hh hcase hok hz
        go_wp2_with fail
        with_reducible refine PS.mono ?_
        rintro e w5 ⟨rfl, h5⟩
        replace h5 : Here w [RefVTh r s vs vt, InTh K q s, OutTh K p KK (k + 1)] w5 := h5
        clear PS hcell
        go_wp2_with fail
        with_reducible refine (PO.out _ h5).mono ?_
        rintro e w6 ⟨a6, c6, rfl, h6⟩
        replace h6 : Here w [TextsTh w.heap.size (.slice a6 O.length c6) O, RefVTh r s vs vt, InTh K q s', OutTh K p KK (k + 1)] w6 := h6
        clear h5 PO
        go_wp2_with fail
        with_reducible refine (PR.out _ _ _ _ h6).mono ?_
        rintro e w7 ⟨a7, c7, vs', vt', rfl, h8⟩
        replace h8 : Here w [TextsTh w.heap.size (.slice a7 O.length c7) O, TextsTh w.heap.size (.slice a6 O.length c6) O, RefVTh r s' vs' vt', InTh K q s', OutTh K p KK (k + 1)] w7 := h8
        clear h6 PR
        obtain ⟨as_, cs_, hvs⟩ := (h8.ref 2 rfl).seqs.shape
        rw [seqsOf_len] at hvs
        subst hvs
        have PQ : Hid _ := fun w1 (h : Here w [TextsTh w.heap.size (.slice a7 O.length c7) O, TextsTh w.heap.size (.slice a6 O.length c6) O, RefVTh r s' (.slice as_ s'.W.length cs_) vt', InTh K q s', OutTh K p KK (k + 1)] w1) => book_sameTexts O (.slice a6 O.length c6) (.slice a7 O.length c7) w1 (own_seen (h.texts 1 rfl)) (own_seen (h.texts 0 rfl)) hol
        have PN : Hid _ := fun w1 (h : Here w [TextsTh w.heap.size (.slice a7 O.length c7) O, TextsTh w.heap.size (.slice a6 O.length c6) O, RefVTh r s' (.slice as_ s'.W.length cs_) vt', InTh K q s', OutTh K p KK (k + 1)] w1) => h.inNext 3 rfl
        have PW : Hid (∀ w1, Here w [TextsTh w.heap.size (.slice a7 O.length c7) O, TextsTh w.heap.size (.slice a6 O.length c6) O, RefVTh r s' (.slice as_ s'.W.length cs_) vt', InTh K q s', OutTh K p KK (k + 1)] w1 → Calls Tryz.prog 25 #[.pointer (some ⟨q, 0, none⟩)] w1 fun e w' => e = .returned (.int .i64 (s'.W.length : Int)) ∧ Here w [TextsTh w.heap.size (.slice a7 O.length c7) O, TextsTh w.heap.size (.slice a6 O.length c6) O, RefVTh r s' (.slice as_ s'.W.length cs_) vt', InTh K q s', OutTh K p KK (k + 1)] w') := fun w1 h => h.inWaits 3 rfl
        go_wp2_with fail
        replace h8 := h8.drew
        have c8a := (h8.ref 2 rfl).row.cellAt (j := 1) rfl
        have c8b := (h8.ref 2 rfl).row.cellAt (j := 2) rfl
        by_cases hKO : KK = OO
        · obtain ⟨g1, g2⟩ := hcase'.out hKO
          subst g2
          have eKO : (KK.toList == OO.toList) = true := by rw [hKO]; exact str_beq_self OO
          have hfin : Hid (KK = OO → s' = ⟨OO, k + 1, []⟩) := fun _ => g1
          clear g1 hcase' hKO
          go_region_held3 (fun w' => w'.cell? ⟨r, 1, none⟩ = some (.int .i64 (s'.next : Int)) ∧ w'.cell? ⟨r, 2, none⟩ = some (.slice as_ s'.W.length cs_)) (first | exact ⟨c11a, c11b⟩ | exact ⟨c10a, c10b⟩ | exact ⟨c9a, c9b⟩ | exact ⟨c8a, c8b⟩) (first | (go_at_call 23; with_reducible refine (PQ.out _ h8).mono ?_; rintro e w9 ⟨rfl, b9⟩; have h9 := h8.below b9; have c9a := (h9.ref 2 rfl).row.cellAt (j := 1) rfl; have c9b := (h9.ref 2 rfl).row.cellAt (j := 2) rfl) | (go_at_call 24; with_reducible refine (PN.out _ h9).mono ?_; rintro e w10 ⟨rfl, m10, rfl⟩; have h10 := h9.drewN m10; have c10a := (h10.ref 2 rfl).row.cellAt (j := 1) rfl; have c10b := (h10.ref 2 rfl).row.cellAt (j := 2) rfl) | (go_at_call 25; with_reducible refine (PW.out _ h10).mono ?_; rintro e w11 ⟨rfl, h11⟩; have c11b := (h11.ref 2 rfl).row.cellAt (j := 2) rfl; have c11a := (h11.ref 2 rfl).row.cellAt (j := 1) rfl))
          all_goals
            go_wp2
            go_roundw
            case rel => exact ⟨k + 1, s', _, _, by omega, by go_num, hkey', hwl, hfin, h11.tail.tail⟩
            case measure => simp [intOf]; omega
        · have eKO : (KK.toList == OO.toList) = false := beq_no13 hKO
          have hfin : Hid (KK = OO → s' = ⟨OO, k + 1, []⟩) := fun e => absurd e hKO
          clear hcase' hKO
          simp only [opMv13_is, opNe13_is]
          have hop := opMv13_back
          go_region_held3 (fun w' => w'.cell? ⟨r, 1, none⟩ = some (.int .i64 (s'.next : Int)) ∧ w'.cell? ⟨r, 2, none⟩ = some (.slice as_ s'.W.length cs_)) (first | exact ⟨c11a, c11b⟩ | exact ⟨c10a, c10b⟩ | exact ⟨c9a, c9b⟩ | exact ⟨c8a, c8b⟩) (first | (go_at_call 23; with_reducible refine (PQ.out _ h8).mono ?_; rintro e w9 ⟨rfl, b9⟩; have h9 := h8.below b9; have c9a := (h9.ref 2 rfl).row.cellAt (j := 1) rfl; have c9b := (h9.ref 2 rfl).row.cellAt (j := 2) rfl) | (go_at_call 24; with_reducible refine (PN.out _ h9).mono ?_; rintro e w10 ⟨rfl, m10, rfl⟩; have h10 := h9.drewN m10; have c10a := (h10.ref 2 rfl).row.cellAt (j := 1) rfl; have c10b := (h10.ref 2 rfl).row.cellAt (j := 2) rfl) | (go_at_call 25; with_reducible refine (PW.out _ h10).mono ?_; rintro e w11 ⟨rfl, h11⟩; have c11b := (h11.ref 2 rfl).row.cellAt (j := 2) rfl; have c11a := (h11.ref 2 rfl).row.cellAt (j := 1) rfl))
          all_goals
            go_wp2
            go_roundw
            case rel => exact ⟨k + 1, s', _, _, by omega, by go_num, hkey', hwl, hfin, h11.tail.tail⟩
            case measure => simp [intOf]; omega
    · obtain rfl : k = n := by omega
      have dlt : decide ((k : Int) < (k : Int)) = false := by simp
      go_wp2
      go_ret
      exact ⟨rfl, hh.bel⟩

end Go.Proofs.YtanghehmfagmfaaGreatDoor
