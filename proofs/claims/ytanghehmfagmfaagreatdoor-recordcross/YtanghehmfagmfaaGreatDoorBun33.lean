/-
  Parts of this proof, one behind the other: Rec4.
-/
import Derived.Test.YtanghehmfagmfaaGreatDoorBun29
import Derived.Test.YtanghehmfagmfaaGreatDoorBun21
import Derived.Test.YtanghehmfagmfaaGreatDoorBun32
import Derived.Test.YtanghehmfagmfaaGreatDoorBun27
import Derived.Deep.RegionWith

/-
  The reference's Record and Unrecord.
-/
namespace Go.Proofs.YtanghehmfagmfaaGreatDoor
open Go.RowKit
set_option linter.unusedVariables false
set_option maxRecDepth 100000
set_option linter.unusedSimpArgs false

theorem turnR_32 (k : ByteArray) (n : Nat) (hk : k.size = 32) : (turnR k n).size = 32 := by
  cases n with
  | zero => exact hk
  | succ n => exact turnR_size k n
theorem nonceR_12 (n : Nat) : (nonceR (n : Int)).size = 12 := nonceR_size (by omega)
theorem bel13 {w w1 w2 : World} (h1 : Below w.heap.size w w1) (h2 : Below w1.heap.size w1 w2) : Below w.heap.size w w2 := h1.trans (h2.mono h1.size)
theorem tdiv8 (n : Nat) : Int.tdiv (n : Int) 8 = ((n / 8 : Nat) : Int) := by
  rw [Int.tdiv_eq_ediv_of_nonneg (by omega)]
  omega
/-- A contract told from an elder world on. -/
theorem from13 {w w1 : World} {f : FuncId} {args : Array Value} {v : Ending} (h : Calls Tryz.prog f args w1 fun e w' => e = v ∧ Below w1.heap.size w1 w') (hb : Below w.heap.size w w1) : Calls Tryz.prog f args w1 fun e w' => e = v ∧ Below w.heap.size w w' :=
  h.mono fun e w' hh => ⟨hh.1, bel13 hb hh.2⟩

set_option maxHeartbeats 1000000 in
theorem ref_record (key t : ByteArray) (n : Nat) (w : World) (hk : key.size = 32) (hn : n ≤ 1000) (ht : t.size ≤ 2046) :
    Calls Tryz.prog 18 #[.string key, .int .i64 (n : Int), .string t] w fun e w' => e = .returned (.string (recS key n t)) ∧ Below w.heap.size w w' := by
  have PP : Hid _ := fun w => ref_pad t w (by omega)
  have PH : Hid _ := fun w => ref_putBig (n : Int) 8 w (by omega) (by omega)
  have PT : Hid _ := fun w1 (h : Below w.heap.size w w1) => from13 (ref_turn key (n / 8) w1 (by omega) (by omega)) h
  have PN : Hid _ := fun w1 (h : Below w.heap.size w w1) => from13 (ref_nonce (n : Int) w1 (by omega) (by omega)) h
  have zp := padS_size t ht
  have zb := sizeN_bd (t.size : Int) (by omega) (by omega)
  have zh := putBigS_size (n : Int) 8 (by decide)
  have PB : Hid _ := fun w1 (h : Below w.heap.size w w1) => from13 (ref_box_yes (turnR key (n / 8)) (nonceR (n : Int)) (padS t) (putBigS (n : Int) 8) w1 (turnR_32 key _ hk) (nonceR_12 n) (by omega) (by rw [zh]; decide)) h
  have zs := sealS_size (turnR key (n / 8)) (nonceR (n : Int)) (padS t) (putBigS (n : Int) 8)
  have HR : Hid (putBigS (n : Int) 8 ++ sealS (turnR key (n / 8)) (nonceR (n : Int)) (padS t) (putBigS (n : Int) 8) = recS key n t) := rfl
  have hln : ¬ (9223372036854775807 < (putBigS (n : Int) 8).size + (sealS (turnR key (n / 8)) (nonceR (n : Int)) (padS t) (putBigS (n : Int) 8)).size) := by
    have : (8 : Int).toNat = 8 := rfl
    omega
  have d8 := tdiv8 n
  have dE : wrap64 ((n / 8 : Nat) : Int) = ((n / 8 : Nat) : Int) := by unfold wrap64; omega
  have dw : IntKind.u64.wrap (n : Int) = (n : Int) := by rw [IntKind.wrap_u64]; omega
  clear zp zb zh zs
  generalize sealS (turnR key (n / 8)) (nonceR (n : Int)) (padS t) (putBigS (n : Int) 8) = SS at *
  generalize turnR key (n / 8) = KK at *
  generalize nonceR (n : Int) = NN at *
  generalize padS t = PD at *
  generalize putBigS (n : Int) 8 = HH at *
  generalize n / 8 = EE at *
  go_enter Tryz.func18, Tryz.ntmps18
  go_wp2_with fail
  with_reducible refine (PP.out _).mono ?_
  rintro e w1 ⟨rfl, b1⟩
  go_wp2_with fail
  with_reducible refine (PH.out _).mono ?_
  rintro e w2 ⟨rfl, b2⟩
  replace b1 := bel13 b1 b2
  clear b2
  go_wp2_with fail
  with_reducible refine (PT.out _ b1).mono ?_
  rintro e w3 ⟨rfl, b3⟩
  clear b1
  go_wp2_with fail
  with_reducible refine (PN.out _ b3).mono ?_
  rintro e w4 ⟨rfl, b4⟩
  clear b3
  go_wp2_with fail
  with_reducible refine (PB.out _ b4).mono ?_
  rintro e w5 ⟨rfl, b5⟩
  clear b4
  go_wp2
  rw [HR.out]
  go_ret
  exact ⟨rfl, b5⟩

/-- What Unrecord tells. -/
def unN (b : ByteArray) : Nat := if formR b then seqN b else 0
def unE (k b : ByteArray) : Nat := if formR b then if openR k b then 0 else 3 else 2
def unT (k b : ByteArray) : ByteArray := if formR b then if openR k b then textR k b else ⟨#[]⟩ else ⟨#[]⟩
theorem slice_head13 (b : ByteArray) (w : World) (h : 8 ≤ b.size) : (Instr.slice 9 (.string b) none (some (.int .i64 8)) none).run Tryz.prog w = .ok (.string (b.extract 0 8)) w := by
  have h2 := run_slice_string_to_if (P := Tryz.prog) w 9 b .i64 8 Tryz.underlying9
  rw [if_pos ⟨by omega, by omega⟩] at h2
  exact h2
theorem slice_rest13 (b : ByteArray) (w : World) (h : 8 ≤ b.size) : (Instr.slice 9 (.string b) (some (.int .i64 8)) none none).run Tryz.prog w = .ok (.string (b.extract 8 b.size)) w := by
  have h2 := run_slice_string_from_if (P := Tryz.prog) w 9 b .i64 8 Tryz.underlying9
  rw [if_pos ⟨by omega, by omega⟩] at h2
  exact h2
set_option maxHeartbeats 1000000 in
theorem ref_unrecord (key b : ByteArray) (w : World) (hk : key.size = 32) (hb : b.size ≤ 1000000) :
    Calls Tryz.prog 29 #[.string key, .string b] w fun e w' => e = .returned (.tuple #[.int .i64 (unN b : Int), .string (unT key b), .int .i64 (unE key b : Int)]) ∧ Below w.heap.size w w' := by
  by_cases h24 : b.size < 24
  · have hf : formR b = false := decide_eq_false (by omega)
    have e1 : unN b = 0 := by unfold unN; rw [hf]; rfl
    have e2 : unT key b = ⟨#[]⟩ := by unfold unT; rw [hf]; rfl
    have e3 : unE key b = 2 := by unfold unE; rw [hf]; rfl
    rw [e1, e2, e3]
    have d1 : decide ((b.size : Int) < 24) = true := decide_eq_true (by omega)
    clear hf e1 e2 e3
    go_enter Tryz.func29, Tryz.ntmps29
    go_wp2
    go_ret3
    exact ⟨rfl, Below.refl _ _⟩
  have d1 : decide ((b.size : Int) < 24) = false := decide_eq_false (by omega)
  have hle8 : (8 : Int) ≤ (b.size : Int) := by omega
  have hx : (b.extract 0 8).size = 8 := by simp; omega
  have hxr : (b.extract 8 b.size).size ≤ 1000000 := by simp; omega
  have hB := fun w => ref_big (b.extract 0 8) w (by unfold maxLen; omega)
  rw [← seqN_is b] at hB
  have PB : Hid _ := hB
  clear hB
  by_cases hq : seqN b < 400
  · have hf : formR b = true := decide_eq_true ⟨by omega, hq⟩
    have e1 : unN b = seqN b := by unfold unN; rw [hf]; rfl
    have PT : Hid _ := fun w1 (h : Below w.heap.size w w1) => from13 (ref_turn key (seqN b / 8) w1 (by omega) (by omega)) h
    have PN : Hid _ := fun w1 (h : Below w.heap.size w w1) => from13 (ref_nonce (seqN b : Int) w1 (by omega) (by omega)) h
    have PU : Hid _ := fun w1 (h : Below w.heap.size w w1) => from13 (ref_unbox_yes (turnR key (seqN b / 8)) (nonceR (seqN b : Int)) (b.extract 8 b.size) (b.extract 0 8) w1 (turnR_32 key _ hk) (nonceR_12 _) hxr (by omega)) h
    have PP : Hid _ := fun w1 (hz : (plainR key b).size ≤ 1000000) (h : Below w.heap.size w w1) => from13 (ref_unpad (plainR key b) w1 hz) h
    have S1 := slice_head13 b
    have S2 := slice_rest13 b
    have hzp : (plainR key b).size ≤ 1000000 := by
      unfold plainR openS
      split
      · rw [hideS_size]; simp; omega
      · decide
    have HO : Hid (openR key b = (sealR key b && unpadOk (plainR key b))) := rfl
    have HT : Hid (textR key b = unpadS (plainR key b)) := rfl
    have e2 : unE key b = if openR key b then 0 else 3 := by unfold unE; rw [hf]; rfl
    have e3 : unT key b = if openR key b then textR key b else ⟨#[]⟩ := by unfold unT; rw [hf]; rfl
    rw [e1, e2, e3, HO.out, HT.out]
    have d8 := tdiv8 (seqN b)
    have dE2 : IntKind.i64.wrap ((seqN b / 8 : Nat) : Int) = ((seqN b / 8 : Nat) : Int) := by rw [IntKind.wrap_i64]; omega
    have dE : wrap64 ((seqN b / 8 : Nat) : Int) = ((seqN b / 8 : Nat) : Int) := by unfold wrap64; omega
    have dw : IntKind.i64.wrap (seqN b : Int) = (seqN b : Int) := by rw [IntKind.wrap_i64]; omega
    have d2 : decide (400 ≤ (seqN b : Int)) = false := decide_eq_false (by omega)
    have PU2 : Hid (∀ w1, Below w.heap.size w w1 → Calls Tryz.prog 81 #[.string (turnR key (seqN b / 8)), .string (nonceR (seqN b : Int)), .string (b.extract 8 b.size), .string (b.extract 0 8)] w1 fun e w' => e = .returned (.tuple #[.string (plainR key b), .bool (sealR key b)]) ∧ Below w.heap.size w w') := PU.out
    clear HO HT e1 e2 e3 hf PU h24
    generalize plainR key b = PL at *
    generalize sealR key b = SL at *
    generalize turnR key (seqN b / 8) = KK at *
    generalize nonceR (seqN b : Int) = NN at *
    generalize seqN b / 8 = EE at *
    generalize seqN b = QQ at *
    cases SL with
    | false =>
      show Calls _ _ _ _ fun e w' => e = .returned (.tuple #[.int .i64 (QQ : Int), .string ⟨#[]⟩, .int .i64 3]) ∧ Below w.heap.size w w'
      go_enter Tryz.func29, Tryz.ntmps29
      go_wp2_with fail
      with_reducible refine (PB.out _).mono ?_
      rintro e w' ⟨rfl, rfl⟩
      go_wp2_with fail
      with_reducible refine (PB.out _).mono ?_
      rintro e w' ⟨rfl, rfl⟩
      go_wp2_with fail
      go_region_with (first | (go_at_call 40; with_reducible refine (PT.out _ (by first | assumption | exact Below.drew (by assumption) | exact Below.refl _ _ | exact (Below.refl _ _).drew)).mono ?_; rintro e wT ⟨rfl, bT⟩) | (go_at_call 41; with_reducible refine (PN.out _ (by first | assumption | exact Below.drew (by assumption) | exact Below.refl _ _ | exact (Below.refl _ _).drew)).mono ?_; rintro e wN ⟨rfl, bN⟩) | (go_at_call 81; with_reducible refine (PU2.out _ (by first | assumption | exact Below.drew (by assumption))).mono ?_; rintro e wU ⟨rfl, bU⟩))
      all_goals
        go_wp2
        go_ret3
        exact ⟨rfl, bU⟩
    | true =>
      show Calls _ _ _ _ fun e w' => e = .returned (.tuple #[.int .i64 (QQ : Int), .string (if unpadOk PL then unpadS PL else ⟨#[]⟩), .int .i64 ((if unpadOk PL then 0 else 3 : Nat) : Int)]) ∧ Below w.heap.size w w'
      cases hu : unpadOk PL with
      | false =>
        rw [hu] at PP
        show Calls _ _ _ _ fun e w' => e = .returned (.tuple #[.int .i64 (QQ : Int), .string ⟨#[]⟩, .int .i64 3]) ∧ Below w.heap.size w w'
        go_enter Tryz.func29, Tryz.ntmps29
        go_wp2_with fail
        with_reducible refine (PB.out _).mono ?_
        rintro e w' ⟨rfl, rfl⟩
        go_wp2_with fail
        with_reducible refine (PB.out _).mono ?_
        rintro e w' ⟨rfl, rfl⟩
        go_wp2_with fail
        go_region_with (first | (go_at_call 40; with_reducible refine (PT.out _ (by first | assumption | exact Below.drew (by assumption) | exact Below.refl _ _ | exact (Below.refl _ _).drew)).mono ?_; rintro e wT ⟨rfl, bT⟩) | (go_at_call 41; with_reducible refine (PN.out _ (by first | assumption | exact Below.drew (by assumption) | exact Below.refl _ _ | exact (Below.refl _ _).drew)).mono ?_; rintro e wN ⟨rfl, bN⟩) | (go_at_call 81; with_reducible refine (PU2.out _ (by first | assumption | exact Below.drew (by assumption))).mono ?_; rintro e wU ⟨rfl, bU⟩))
        all_goals
          go_wp2_with fail
          with_reducible refine (PP.out _ hzp bU).mono ?_
          rintro e wP ⟨rfl, bP⟩
          go_wp2
          go_ret3
          exact ⟨rfl, bP⟩
      | true =>
        rw [hu] at PP
        show Calls _ _ _ _ fun e w' => e = .returned (.tuple #[.int .i64 (QQ : Int), .string (unpadS PL), .int .i64 0]) ∧ Below w.heap.size w w'
        generalize unpadS PL = TX at *
        go_enter Tryz.func29, Tryz.ntmps29
        go_wp2_with fail
        with_reducible refine (PB.out _).mono ?_
        rintro e w' ⟨rfl, rfl⟩
        go_wp2_with fail
        with_reducible refine (PB.out _).mono ?_
        rintro e w' ⟨rfl, rfl⟩
        go_wp2_with fail
        go_region_with (first | (go_at_call 40; with_reducible refine (PT.out _ (by first | assumption | exact Below.drew (by assumption) | exact Below.refl _ _ | exact (Below.refl _ _).drew)).mono ?_; rintro e wT ⟨rfl, bT⟩) | (go_at_call 41; with_reducible refine (PN.out _ (by first | assumption | exact Below.drew (by assumption) | exact Below.refl _ _ | exact (Below.refl _ _).drew)).mono ?_; rintro e wN ⟨rfl, bN⟩) | (go_at_call 81; with_reducible refine (PU2.out _ (by first | assumption | exact Below.drew (by assumption))).mono ?_; rintro e wU ⟨rfl, bU⟩))
        all_goals
          go_wp2_with fail
          with_reducible refine (PP.out _ hzp bU).mono ?_
          rintro e wP ⟨rfl, bP⟩
          go_wp2
          go_ret3
          exact ⟨rfl, bP⟩
  · have hf : formR b = false := decide_eq_false (fun h => hq h.2)
    have e1 : unN b = 0 := by unfold unN; rw [hf]; rfl
    have e2 : unT key b = ⟨#[]⟩ := by unfold unT; rw [hf]; rfl
    have e3 : unE key b = 2 := by unfold unE; rw [hf]; rfl
    rw [e1, e2, e3]
    have d2 : decide (400 ≤ (seqN b : Int)) = true := decide_eq_true (by omega)
    clear hf e1 e2 e3
    generalize seqN b = QQ at *
    go_enter Tryz.func29, Tryz.ntmps29
    go_wp2_with fail
    with_reducible refine (PB.out _).mono ?_
    rintro e w' ⟨rfl, rfl⟩
    go_wp2
    go_ret3
    exact ⟨rfl, Below.refl _ _⟩

end Go.Proofs.YtanghehmfagmfaaGreatDoor
